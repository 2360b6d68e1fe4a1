/-
  Layer 7: Q0, Q1, Q2, Q3, Q4, Q5, Q6, Q7, Q8, Q9, Q10, Q11, Q12, put together.
-/
import Derived.Test.YtjfpeklfgnajoaaGreatM1
import Derived.Test.YtjfpeklfgnajoaaGreatM3
import Derived.Test.YtjfpeklfgnajoaaGreatM2
import Derived.BigQuiet
import Derived.Deep.QuietTactic
import Derived.Deep.RegionWith
import Derived.Maps.Keyed
import Derived.Maps.RangeRun
import Derived.DeepKeys4
import Derived.Maps.OwnOps
import Derived.StillTailTactics
import Derived.Deep.RegionLaw
import Derived.Deep.RegionHeld3

namespace Go.Proofs.YtjfpeklfgnajoaaGreat.L6
open Go.ChangeShapes Go.WideShapes Go.ChangeAt Go.RowKit By Reg
set_option linter.unusedVariables false
set_option linter.unusedSimpArgs false

theorem info_I : (Tryz.prog.info? 3).map (fun i => (i.zero, i.size, i.bytes)) = some (some (.int .i64 0), 1, 8) := by kernel_rfl


set_option maxHeartbeats 4000000 in
set_option maxRecDepth 100000 in
theorem clone_any_I (w : World) (v : Value) (xs : List Value) (hs : Sl w v xs) (hbig : xs.length ≤ 1000000) (h1 : ∀ u ∈ xs, u.oneCell' = true) :
    Calls Tryz.prog 94 #[v] w fun e w' => ∃ v', e = .returned v' ∧ Row w' 3 v' xs ∧ (∀ k, v'.ownBlock = some k → w.heap.size ≤ k) ∧ Rb w w' := by
  have hu := Tryz.underlying43
  obtain ⟨ao, cap, rfl, e2, e3, e4, e5⟩ := hs
  have q22 : ∀ (w : World) (a : Option Addr) (n c n' c' : Nat), (binOp .eql 43 (.slice a n c) (.slice none n' c')).run Tryz.prog w = .ok (.bool a.isNone) w := fun w a n c n' c' => Lib.run_eql_slice_nil w _ _ a n c n' c' hu
  cases ao with
  | none =>
    have hc := e4 rfl
    have h0 : xs = [] := List.eq_nil_of_length_eq_zero (by omega)
    subst h0
    clear e5 e4 e2 e3
    go_enter Tryz.func94, Tryz.ntmps94
    go_wp2_with fail
    go_ret
    exact ⟨_, rfl, Row.nil _ _, (fun k hk => by cases hk), Rb.refl _⟩
  | some ad =>
    obtain ⟨i0, hi0, hz0, hzs, hzb⟩ := info_parts info_I
    obtain ⟨W0, hW0⟩ : ∃ W0, W0 = w.alloc (.cells #[] 3) := ⟨_, rfl⟩
    have hr0 : Row W0 3 (.slice (some ⟨w.heap.size, 0, none⟩) 0 0) [] := by
      have hb : Blk W0 w.heap.size 3 ([] ++ []) := by rw [hW0]; exact Blk.new w _ []
      exact Row.mk' hb (Nat.zero_le _)
    have hrb : Rb w W0 := by rw [hW0]; exact (Below.refl _ w).alloc (Nat.le_refl _) _
    have hsl : Sl W0 (.slice (some ad) xs.length cap) xs := Sl.rb ⟨_, _, rfl, e2, e3, e4, e5⟩ hrb
    obtain ⟨v', w', hra, h2, h3, h4⟩ := run_append_row (P := Tryz.prog) hu hi0 hz0 hzs hzb (by omega) rfl hr0 hsl h1 (by simp; omega)
    have hR : Rb w w' := Below.grown (show Below w.heap.size w W0 from hrb) h3 hrb.size (fun k hk => by cases hk; exact Nat.le_refl _)
    have hN : ∀ k, v'.ownBlock = some k → w.heap.size ≤ k := fun k hk => by
      rcases h4 k hk with h | h
      · cases h; exact Nat.le_refl _
      · exact Nat.le_trans hrb.size h
    have HR := Lib.hid hR
    have HN := Lib.hid hN
    have H2 := Lib.hid h2
    obtain ⟨n, hn⟩ : ∃ n, n = xs.length := ⟨_, rfl⟩
    rw [← hn] at hra ⊢
    rw [hW0] at hra
    clear hR hN h2 h3 h4 hi0 hz0 hzs hzb hr0 hrb hsl hn hW0 e2 e3 e4 e5 hbig h1
    go_enter Tryz.func94, Tryz.ntmps94
    go_wp2_with (at_builtin; refine wpList_run_append rfl rfl rfl rfl (hra _) ?_)
    go_ret
    exact ⟨_, rfl, H2.out, HN.out, HR.out⟩


end Go.Proofs.YtjfpeklfgnajoaaGreat.L6

namespace Go.Proofs.YtjfpeklfgnajoaaGreat.L6
open Go.ChangeShapes Go.WideShapes Go.ChangeAt Go.RowKit Oct By Reg Val
set_option linter.unusedVariables false
set_option linter.unusedSimpArgs false

/-! ### cells of a slice of structs of three cells -/
abbrev e3 (x : Value × Value × Value) : List Value := [x.1, x.2.1, x.2.2]
def flatE {α : Type} (en : α → Value × Value × Value) (l : List α) : List Value := l.flatMap fun x => e3 (en x)
theorem flatE_len {α : Type} (en : α → Value × Value × Value) : ∀ l : List α, (flatE en l).length = l.length * 3
  | [] => rfl
  | p :: l => by
    have := flatE_len en l
    simp only [flatE, List.flatMap_cons, List.length_append, List.length_cons, List.length_nil] at this ⊢
    rw [this]; omega
theorem flatE_append {α : Type} (en : α → Value × Value × Value) (a b : List α) : flatE en (a ++ b) = flatE en a ++ flatE en b := by unfold flatE; simp
theorem flatE_get {α : Type} (en : α → Value × Value × Value) : ∀ (l : List α) (k : Nat) (hk : k < l.length), (flatE en l)[k * 3]? = some (en l[k]).1 ∧ (flatE en l)[k * 3 + 1]? = some (en l[k]).2.1 ∧ (flatE en l)[k * 3 + 2]? = some (en l[k]).2.2
  | [], k, h => by simp at h
  | p :: l, 0, h => ⟨rfl, rfl, rfl⟩
  | p :: l, k + 1, h => by
    have := flatE_get en l k (by simpa using h)
    rw [show (k + 1) * 3 = k * 3 + 1 + 1 + 1 by omega]
    exact this
theorem flatE_vE (l : List ValD) : flatE vE l = flat3 l := rfl

/-- the cells of such a slice, one by one -/
theorem Row3.cells {α : Type} {en : α → Value × Value × Value} {w : World} {ad : Addr} {n c : Nat} {L : List α} (h : Row3 en w (.slice (some ad) n c) L) (h0 : 0 < L.length) :
    ∀ j u, (flatE en L)[j]? = some u → w.cell? (ad.add j) = some u := by
  obtain ⟨ao, cap, e, h2, h3, h4⟩ := h
  obtain ⟨b, o, rfl, hc⟩ := h4 h0
  simp only [Value.slice.injEq, Option.some.injEq] at e
  obtain ⟨rfl, -, -⟩ := e
  intro j u hu
  have hj := (List.getElem?_eq_some_iff.1 hu).1
  rw [flatE_len] at hj
  have hk : j / 3 < L.length := by omega
  obtain ⟨c0, c1, c2⟩ := hc (j / 3) hk
  obtain ⟨g0, g1, g2⟩ := flatE_get en L (j / 3) hk
  rw [Addr.add_lit]
  have hr : j = j / 3 * 3 ∨ j = j / 3 * 3 + 1 ∨ j = j / 3 * 3 + 2 := by omega
  rcases hr with e | e | e
  · rw [e] at hu ⊢
    rw [g0] at hu; cases hu
    exact c0
  · rw [e] at hu ⊢
    rw [g1] at hu; cases hu
    rw [← Nat.add_assoc]
    exact c1
  · rw [e] at hu ⊢
    rw [g2] at hu; cases hu
    rw [← Nat.add_assoc]
    exact c2

/-- a row of the call's own reads so -/
theorem row3_of_owns {α : Type} {en : α → Value × Value × Value} {w : World} {B : Nat} {e : TypeId} {v : Value} {L : List α} (h : w.ownsRow B e 3 v L.length (flatE en L)) : Row3 en w v L := by
  have h0 := h
  rcases h.2 with ⟨rfl, h2⟩ | ⟨g, cap, cur, rfl, h2, h3, h4, h5, h6, h7⟩
  · have : L = [] := List.eq_nil_of_length_eq_zero h2
    subst this
    exact ⟨none, 0, rfl, Nat.le_refl _, Nat.zero_le _, fun h => absurd h (Nat.lt_irrefl _)⟩
  · refine ⟨_, cap, rfl, h4, h5, fun _ => ⟨g, 0, rfl, fun k hk => ?_⟩⟩
    have hc := World.ownsRow.cells h0 (g := g) rfl
    obtain ⟨c0, c1, c2⟩ := flatE_get en L k hk
    have a0 := hc _ _ c0
    have a1 := hc _ _ c1
    have a2 := hc _ _ c2
    rw [Addr.add_lit] at a0 a1 a2
    exact ⟨a0, by rw [Nat.add_assoc]; exact a1, by rw [Nat.add_assoc]; exact a2⟩

/-! ### which blocks operations turn -/
def mutT (T : TypeId) : Prop := kind T ∨ T = 95 ∨ T = 122 ∨ T = 3
def MutB (w : World) (k : Nat) : Prop := (∃ T cs, Blk w k T cs ∧ mutT T) ∨ ∃ es c, w.heap[k]? = some (.map es c)
theorem notV : ¬ mutT 60 := by
  rintro ((h | h | h | h | h) | h | h | h) <;> exact absurd h (by decide)
theorem notC : ¬ mutT 88 := by
  rintro ((h | h | h | h | h) | h | h | h) <;> exact absurd h (by decide)
theorem notS : ¬ mutT 89 := by
  rintro ((h | h | h | h | h) | h | h | h) <;> exact absurd h (by decide)
theorem notSt : ¬ mutT 83 := by
  rintro ((h | h | h | h | h) | h | h | h) <;> exact absurd h (by decide)
theorem MutB.of_kind {w : World} {k : Nat} (h : ∃ T cs, Blk w k T cs ∧ kind T) : MutB w k := by
  obtain ⟨T, cs, hb, hk⟩ := h
  exact .inl ⟨T, cs, hb, .inl hk⟩
theorem MutB.same {w w' : World} {k : Nat} (h : MutB w k) (e : w'.heap[k]? = w.heap[k]?) : MutB w' k := by
  rcases h with ⟨T, cs, hb, hk⟩ | ⟨es, c, hb⟩
  · exact .inl ⟨T, cs, hb.same e, hk⟩
  · exact .inr ⟨es, c, e.trans hb⟩
theorem blk_off {w : World} {T : TypeId} {N : Nat} {cs : List Value} (h : Blk w N T cs) (hT : ¬ mutT T) : ¬ MutB w N := fun hm => by
  rcases hm with ⟨T', cs', hb, hk⟩ | ⟨es, c, hb⟩
  · exact hT ((hb.inj h).1 ▸ hk)
  · unfold Blk at h
    rw [hb] at h
    cases h
theorem owns_off {w : World} {B : Nat} {e : TypeId} {s : Nat} {v : Value} {n : Nat} {xs : List Value} (h : w.ownsRow B e s v n xs) (hT : ¬ mutT e) : ∀ k, v.ownBlock = some k → ¬ MutB w k := fun k hk hm => by
  rcases h.2 with ⟨rfl, h2⟩ | ⟨g, cap, cur, rfl, h2, h3, h4⟩
  · cases hk
  · simp only [Value.ownBlock, Option.some.injEq] at hk
    subst hk
    have hb : Blk w g e cur.toList := by unfold Blk; simpa using h3
    exact blk_off hb hT hm
/-- what an operation turns leaves rows, columns and the like alone -/
theorem owns_fr' {F : Nat → Prop} {w w' : World} {B : Nat} {e : TypeId} {s : Nat} {v : Value} {n : Nat} {xs : List Value} (h : w.ownsRow B e s v n xs) (hT : ¬ mutT e) (hf : Fr F w w') (hF : ∀ k, F k → k < w.heap.size → MutB w k) : w'.ownsRow B e s v n xs :=
  owns_same h fun k hk => hf.block k (World.ownsRow.lt h k hk).2 fun hfk => owns_off h hT k hk (hF k hfk (World.ownsRow.lt h k hk).2)

/-! ### rows of tables -/
/-- a row that lies in memory of its own, and isn't nil -/
structure VIn (w : World) (y : SV) : Prop where
  own : VRow w 0 (sv y) y.row
  pos : 0 < y.row.length
theorem VIn.ao {w : World} {y : SV} (h : VIn w y) : ∃ g, y.ao = some ⟨g, 0, none⟩ ∧ y.n = y.row.length := by
  rcases h.own.2 with ⟨h1, h2⟩ | ⟨g, cap, cur, h1, _⟩
  · have := h.pos; omega
  · simp only [Value.slice.injEq] at h1
    exact ⟨g, h1.1, h1.2.1⟩
theorem VIn.rb {w w' : World} {y : SV} (h : VIn w y) (hb : Rb w w') : VIn w' y := ⟨owns_same h.own fun k hk => hb.block k (World.ownsRow.lt h.own k hk).2, h.pos⟩
theorem VIn.fr {F : Nat → Prop} {w w' : World} {y : SV} (h : VIn w y) (hf : Fr F w w') (hF : ∀ k, F k → k < w.heap.size → MutB w k) : VIn w' y := ⟨owns_fr' h.own notV hf hF, h.pos⟩
theorem VIn.vals {w : World} {y : SV} (h : VIn w y) : Vals w (sv y) y.row := h.own.vals

/-! ### a shelf -/
structure Sh where
  b : Nat
  p : Nat
  t : TabD
  L : List Th
  held : Int
  F : Nat → Prop
def Sh.all (s : Sh) (k : Nat) : Prop := k = s.b ∨ s.F k

def COwn (w : World) (v : Value) (L : List ColD) : Prop := w.ownsRow 0 88 3 v L.length (flatE cE L)
theorem COwn.cols {w : World} {v : Value} {L : List ColD} (h : COwn w v L) : Cols w v L := row3_of_owns h

structure ShAt (w : World) (s : Sh) : Prop where
  blk : Blk w s.b 95 [.string s.t.name, i64 s.t.rows, s.t.cv, ptrv s.p, i64 s.held]
  tree : TreeAt w s.p s.L s.F
  cols : COwn w s.t.cv s.t.cols
  rows : ∀ t ∈ s.L, VIn w t.2
namespace ShAt
variable {w w' : World} {s : Sh}
theorem lt (h : ShAt w s) : ∀ k, s.all k → k < w.heap.size := fun k hk => by
  rcases hk with rfl | hk
  · exact h.blk.lt
  · exact h.tree.lt k hk
theorem mutb (h : ShAt w s) : ∀ k, s.all k → MutB w k := fun k hk => by
  rcases hk with rfl | hk
  · exact .inl ⟨_, _, h.blk, .inr (.inl rfl)⟩
  · exact .of_kind (h.tree.typ k hk)
theorem off (h : ShAt w s) : ¬ s.F s.b := fun hF => by
  obtain ⟨T, cs, hb, hk⟩ := h.tree.typ _ hF
  have := (hb.inj h.blk).1
  subst this
  rcases hk with h | h | h | h | h <;> exact absurd h (by decide)
theorem fr {F : Nat → Prop} (h : ShAt w s) (hf : Fr F w w') (hF : ∀ k, F k → k < w.heap.size → MutB w k) (ho : ∀ k, s.all k → ¬ F k) : ShAt w' s :=
  ⟨h.blk.same (hf.block _ h.blk.lt (ho _ (.inl rfl))), h.tree.same fun k hk => hf.block k (h.tree.lt k hk) (ho k (.inr hk)), owns_fr' h.cols notC hf hF, fun t ht => (h.rows t ht).fr hf hF⟩
theorem rb (h : ShAt w s) (hb : Rb w w') : ShAt w' s := h.fr (F := fun _ => False) (Fr.of_rb hb) (fun k h => h.elim) fun k _ h => h
theorem c0 (h : ShAt w s) : w.cell? ⟨s.b, 0, none⟩ = some (.string s.t.name) := h.blk.cell 0
theorem c1 (h : ShAt w s) : w.cell? ⟨s.b, 1, none⟩ = some (i64 s.t.rows) := h.blk.cell 1
theorem c2 (h : ShAt w s) : w.cell? ⟨s.b, 2, none⟩ = some s.t.cv := h.blk.cell 2
theorem c3 (h : ShAt w s) : w.cell? ⟨s.b, 3, none⟩ = some (ptrv s.p) := h.blk.cell 3
theorem c4 (h : ShAt w s) : w.cell? ⟨s.b, 4, none⟩ = some (i64 s.held) := h.blk.cell 4
theorem cform (h : ShAt w s) : ∃ ao cap, s.t.cv = .slice ao s.t.cols.length cap ∧ s.t.cols.length ≤ cap ∧ cap ≤ maxLen := Row3.form h.cols.cols
end ShAt

/-! ### a store -/
def SF (l : List Sh) (k : Nat) : Prop := ∃ s ∈ l, s.all k
def ShDj (a b : Sh) : Prop := ∀ k, a.all k → ¬ b.all k
structure StAt (w : World) (b : Nat) (v : Value) (l : List Sh) : Prop where
  blk : Blk w b 83 [v]
  row : Row w 89 v (l.map fun s => ptrv s.b)
  at_ : ∀ s ∈ l, ShAt w s
  dj : l.Pairwise ShDj
theorem Row.fr' {F : Nat → Prop} {w w' : World} {e : TypeId} {v : Value} {xs : List Value} (h : Row w e v xs) (hT : ¬ mutT e) (hf : Fr F w w') (hF : ∀ k, F k → k < w.heap.size → MutB w k) : Row w' e v xs := owns_fr' h hT hf hF
namespace StAt
variable {w w' : World} {b : Nat} {v : Value} {l : List Sh}
theorem mutb (h : StAt w b v l) : ∀ k, SF l k → MutB w k := fun k ⟨s, hs, hk⟩ => (h.at_ s hs).mutb k hk
theorem lt (h : StAt w b v l) : ∀ k, SF l k → k < w.heap.size := fun k ⟨s, hs, hk⟩ => (h.at_ s hs).lt k hk
theorem fr {F : Nat → Prop} (h : StAt w b v l) (hf : Fr F w w') (hF : ∀ k, F k → k < w.heap.size → MutB w k) (ho : ∀ k, SF l k → ¬ F k) : StAt w' b v l :=
  ⟨h.blk.same (hf.block _ h.blk.lt fun hfk => blk_off h.blk notSt (hF _ hfk h.blk.lt)), h.row.fr' notS hf hF, fun s hs => (h.at_ s hs).fr hf hF fun k hk => ho k ⟨s, hs, hk⟩, h.dj⟩
theorem rb (h : StAt w b v l) (hb : Rb w w') : StAt w' b v l := h.fr (F := fun _ => False) (Fr.of_rb hb) (fun k h => h.elim) fun k _ h => h
/-- one shelf turned -/
theorem up {A B : List Sh} {s s' : Sh} (h : StAt w b v (A ++ s :: B)) (hb : s'.b = s.b) (hs : ShAt w' s') (hf : Fr s.all w w') (hn : ∀ k, s'.all k → s.all k ∨ w.heap.size ≤ k) : StAt w' b v (A ++ s' :: B) := by
  have hd := List.pairwise_append.1 h.dj
  have hd2 := List.pairwise_cons.1 hd.2.1
  have hm := (h.at_ s (by simp)).mutb
  have keep : ∀ x ∈ A ++ B, ShAt w' x ∧ ∀ k, x.all k → ¬ s'.all k := fun x hx => by
    have hx' : x ∈ A ++ s :: B := by
      rcases List.mem_append.1 hx with h | h <;> simp [h]
    have hxs : ∀ k, x.all k → ¬ s.all k := fun k hk => by
      rcases List.mem_append.1 hx with h | h
      · exact hd.2.2 x h s (by simp) k hk
      · exact fun hk' => hd2.1 x h k hk' hk
    refine ⟨(h.at_ x hx').fr hf (fun k hk _ => hm k hk) hxs, fun k hk hk' => ?_⟩
    rcases hn k hk' with h' | h'
    · exact hxs k hk h'
    · have := (h.at_ x hx').lt k hk; omega
  refine ⟨h.blk.same (hf.block _ h.blk.lt fun hfk => blk_off h.blk notSt (hm _ hfk)), ?_, fun x hx => ?_, ?_⟩
  · have := h.row.fr' notS hf (fun k hk _ => hm k hk)
    simpa [hb] using this
  · simp only [List.mem_append, List.mem_cons] at hx
    rcases hx with hx | rfl | hx
    · exact (keep x (by simp [hx])).1
    · exact hs
    · exact (keep x (by simp [hx])).1
  · refine List.pairwise_append.2 ⟨hd.1, List.pairwise_cons.2 ⟨fun x hx k hk hk' => (keep x (by simp [hx])).2 k hk' hk, hd2.2⟩, fun x hx y hy => ?_⟩
    rcases List.mem_cons.1 hy with rfl | hy
    · exact (keep x (by simp [hx])).2
    · exact hd.2.2 x hx y (by simp [hy])
theorem form (h : StAt w b v l) : ∃ ao cap, v = .slice ao l.length cap ∧ l.length ≤ cap ∧ cap ≤ maxLen := by simpa using h.row.form
end StAt

def shOf (l : List Sh) (t : Int) : Option Sh := if 0 ≤ t then l[t.toNat]? else none
theorem shOf_some {l : List Sh} {t : Int} {s : Sh} (h : shOf l t = some s) : ∃ i : Nat, t = i ∧ ∃ hi : i < l.length, l[i] = s := by
  unfold shOf at h
  split at h
  · exact ⟨t.toNat, by omega, (List.getElem?_eq_some_iff.1 h)⟩
  · cases h
theorem shOf_none {l : List Sh} {t : Int} (h : shOf l t = none) : t < 0 ∨ (l.length : Int) ≤ t := by
  unfold shOf at h
  split at h
  · right
    have := List.getElem?_eq_none_iff.1 h
    omega
  · left; omega
end Go.Proofs.YtjfpeklfgnajoaaGreat.L6

namespace Go.Proofs.YtjfpeklfgnajoaaGreat.L6
open Go.ChangeShapes Go.WideShapes Go.ChangeAt Go.RowKit Oct By Reg Val
set_option linter.unusedVariables false
set_option linter.unusedSimpArgs false

abbrev shPtr : Option Sh → Value
  | some s => ptrv s.b
  | none => .pointer none
abbrev trPtr : Option Sh → Value
  | some s => ptrv s.p
  | none => .pointer none

theorem StAt.shelf {w : World} {b : Nat} {v : Value} {l : List Sh} (h : StAt w b v l) (i : Nat) (hi : i < l.length) :
    ∃ g cap, v = .slice (some ⟨g, 0, none⟩) l.length cap ∧ l.length ≤ cap ∧ cap ≤ maxLen ∧ w.cell? ⟨g, i, none⟩ = some (ptrv l[i].b) := by
  obtain ⟨g, cap, h1, h2, h3, h4⟩ := h.row.at_ (j := i) (by rw [List.length_map]; exact hi)
  rw [List.length_map] at h1 h2
  rw [List.getElem_map] at h4
  exact ⟨g, cap, h1, h2, h3, h4⟩

set_option maxRecDepth 100000 in
set_option maxHeartbeats 1000000 in
theorem shelf_any (w : World) (b : Nat) (v : Value) (l : List Sh) (t : Int) (h : StAt w b v l) :
    Calls Tryz.prog 42 #[ptrv b, i64 t] w fun e w' => e = .returned (shPtr (shOf l t)) ∧ w = w' := by
  have c0 : w.cell? ⟨b, 0, none⟩ = some v := h.blk.cell 0
  cases hs : shOf l t with
  | none =>
    obtain ⟨ao, cap, rfl, h1, h2⟩ := h.form
    have hq := shOf_none hs
    clear h hs
    dsimp only [shPtr]
    generalize l.length = n at *
    rcases hq with ht | ht
    · go_enter Tryz.func42, Tryz.ntmps42
      go_wp2
      go_ret
      exact ⟨rfl, rfl⟩
    · by_cases h0 : t < 0
      · omega
      go_enter Tryz.func42, Tryz.ntmps42
      go_wp2
      go_ret
      exact ⟨rfl, rfl⟩
  | some s =>
    obtain ⟨i, rfl, hi, rfl⟩ := shOf_some hs
    obtain ⟨g, cap, rfl, h1, h2, h4⟩ := h.shelf i hi
    clear h hs
    dsimp only [shPtr]
    generalize l[i].b = q at *
    generalize l.length = n at *
    have h0 : ¬ ((i : Int) < 0) := by omega
    go_enter Tryz.func42, Tryz.ntmps42
    go_wp2
    go_ret
    exact ⟨rfl, rfl⟩

theorem shelf_nil (w : World) (t : Int) : Calls Tryz.prog 42 #[.pointer none, i64 t] w fun e w' => e = .returned (.pointer none) ∧ w = w' := by
  go_enter Tryz.func42, Tryz.ntmps42
  go_wp2
  go_ret
  exact ⟨rfl, rfl⟩

set_option maxRecDepth 100000 in
theorem lying_any (w : World) (b : Nat) (v : Value) (l : List Sh) (t : Int) (h : StAt w b v l) :
    Calls Tryz.prog 52 #[ptrv b, i64 t] w fun e w' => e = .returned (trPtr (shOf l t)) ∧ w = w' := by
  have C0 := shelf_any w b v l t h
  cases hs : shOf l t with
  | none =>
    rw [hs] at C0
    dsimp only [shPtr, trPtr] at C0 ⊢
    have C := Lib.hid C0
    clear C0
    clear h hs
    go_enter Tryz.func52, Tryz.ntmps52
    go_wp2_with (go_at_call 42; refine C.out.mono ?_; rintro e w' ⟨rfl, rfl⟩)
    go_ret
    exact ⟨rfl, rfl⟩
  | some s =>
    rw [hs] at C0
    dsimp only [shPtr, trPtr] at C0 ⊢
    have C := Lib.hid C0
    clear C0
    obtain ⟨i, rfl, hi, rfl⟩ := shOf_some hs
    have c3 := (h.at_ l[i] (List.getElem_mem hi)).c3
    clear h hs
    generalize l[i] = s at *
    obtain ⟨sb, sp, st, sL, sh, sF⟩ := s
    dsimp only at *
    go_enter Tryz.func52, Tryz.ntmps52
    go_wp2_with (go_at_call 42; refine C.out.mono ?_; rintro e w' ⟨rfl, rfl⟩)
    go_ret
    exact ⟨rfl, rfl⟩
theorem lying_nil (w : World) (t : Int) : Calls Tryz.prog 52 #[.pointer none, i64 t] w fun e w' => e = .returned (.pointer none) ∧ w = w' := by
  go_enter Tryz.func52, Tryz.ntmps52
  go_wp2_with (go_at_call 42; refine (shelf_nil _ _).mono ?_; rintro e w' ⟨rfl, rfl⟩)
  go_ret
  exact ⟨rfl, rfl⟩

/-- Len -/
def lenSh (l : List Sh) (t : Int) : Int := match shOf l t with | some s => s.L.length | none => 0
set_option maxRecDepth 100000 in
theorem len_any (w : World) (b : Nat) (v : Value) (l : List Sh) (t : Int) (h : StAt w b v l) :
    Calls Tryz.prog 32 #[ptrv b, i64 t] w fun e w' => e = .returned (i64 (lenSh l t)) ∧ w = w' := by
  have C0 := lying_any w b v l t h
  unfold lenSh
  cases hs : shOf l t with
  | none =>
    rw [hs] at C0
    dsimp only [trPtr] at C0 ⊢
    have C := Lib.hid C0
    clear C0
    clear h hs
    go_enter Tryz.func32, Tryz.ntmps32
    go_wp2_with (first | (go_at_call 52; refine C.out.mono ?_; rintro e w' ⟨rfl, rfl⟩) | (go_at_call 46; refine (none_len _).mono ?_; rintro e w' ⟨rfl, rfl⟩))
    go_ret
    exact ⟨rfl, rfl⟩
  | some s =>
    rw [hs] at C0
    dsimp only [trPtr] at C0 ⊢
    have C := Lib.hid C0
    clear C0
    obtain ⟨i, rfl, hi, rfl⟩ := shOf_some hs
    have T := Lib.hid (tlen w _ _ _ (h.at_ l[i] (List.getElem_mem hi)).tree)
    clear h hs
    generalize l[i] = s at *
    obtain ⟨sb, sp, st, sL, sh, sF⟩ := s
    dsimp only at *
    go_enter Tryz.func32, Tryz.ntmps32
    go_wp2_with (first | (go_at_call 52; refine C.out.mono ?_; rintro e w' ⟨rfl, rfl⟩) | (go_at_call 46; refine T.out.mono ?_; rintro e w' ⟨rfl, rfl⟩))
    go_ret
    exact ⟨rfl, rfl⟩

/-- hasCol -/
def hasC (s : Option Sh) (c : Int) : Bool := match s with | some s => decide (0 ≤ c) && decide (c < s.t.cols.length) | none => false
theorem hascol_none (w : World) (c : Int) : Calls Tryz.prog 69 #[.pointer none, i64 c] w fun e w' => e = .returned (.bool false) ∧ w = w' := by
  go_enter Tryz.func69, Tryz.ntmps69
  go_wp2
  go_ret
  exact ⟨rfl, rfl⟩
set_option maxRecDepth 100000 in
theorem hascol_any (w : World) (s : Sh) (c : Int) (h : ShAt w s) : Calls Tryz.prog 69 #[ptrv s.b, i64 c] w fun e w' => e = .returned (.bool (hasC (some s) c)) ∧ w = w' := by
  have c2 := h.c2
  obtain ⟨ao, cap, hc, h1, h2⟩ := h.cform
  rw [hc] at c2
  rw [show hasC (some s) c = (decide (0 ≤ c) && decide (c < s.t.cols.length)) from rfl]
  clear hc h
  generalize s.t.cols.length = n at *
  generalize s.b = b at *
  by_cases h0 : 0 ≤ c
  · have h0' : (decide (0 ≤ c)) = true := by simpa using h0
    go_enter Tryz.func69, Tryz.ntmps69
    go_wp2
    go_ret
    exact ⟨by simp [h0], rfl⟩
  · go_enter Tryz.func69, Tryz.ntmps69
    go_wp2
    go_ret
    exact ⟨by simp [h0]; omega, rfl⟩
end Go.Proofs.YtjfpeklfgnajoaaGreat.L6

namespace Go.Proofs.YtjfpeklfgnajoaaGreat.L6
open Go.ChangeShapes Go.WideShapes Go.ChangeAt Go.RowKit By Reg Val
set_option linter.unusedVariables false
set_option linter.unusedSimpArgs false

theorem e3_one_V (l : List ValD) : ∀ u ∈ flatE vE l, u.oneCell' = true := by
  intro u hu
  obtain ⟨x, hx, hu⟩ := List.mem_flatMap.1 hu
  simp at hu
  rcases hu with rfl | rfl | rfl <;> rfl
theorem e3_one_C (l : List ColD) : ∀ u ∈ flatE cE l, u.oneCell' = true := by
  intro u hu
  obtain ⟨x, hx, hu⟩ := List.mem_flatMap.1 hu
  simp at hu
  rcases hu with rfl | rfl | rfl <;> rfl
theorem infoC3 : (Tryz.prog.info? 88).map (fun i => (i.zero, i.size, i.bytes)) = some (some (.agg #[.string ⟨#[]⟩, .int .i64 0, .int .i64 0]), 3, 32) := by kernel_rfl

set_option maxRecDepth 100000 in
theorem clone3_V (w : World) (v : Value) (L : List ValD) (h : Row3 vE w v L) (hbig : L.length ≤ 1000000) :
    Calls Tryz.prog 47 #[v] w fun e w' => ∃ v', e = .returned v' ∧ w'.ownsRow w.heap.size 60 3 v' L.length (flatE vE L) ∧ Rb w w' ∧ (0 < L.length → ∃ g cap, v' = .slice (some ⟨g, 0, none⟩) L.length cap) ∧ (v = .slice none 0 0 → v' = .slice none 0 0) := by
  have hu := Tryz.underlying32
  have h0 := h
  obtain ⟨ao, cap, rfl, e2, e3_, e4⟩ := h0
  have q22 : ∀ (w : World) (a : Option Addr) (n c n' c' : Nat), (binOp .eql 32 (.slice a n c) (.slice none n' c')).run Tryz.prog w = .ok (.bool a.isNone) w := fun w a n c n' c' => Lib.run_eql_slice_nil w _ _ a n c n' c' hu
  cases ao with
  | none =>
    have h0 : L = [] := List.eq_nil_of_length_eq_zero (by
      rcases Nat.eq_zero_or_pos L.length with h | h
      · exact h
      · obtain ⟨b, o, h, _⟩ := e4 h; cases h)
    subst h0
    clear e4 e2 e3_ h
    go_enter Tryz.func47, Tryz.ntmps47
    go_wp2_with fail
    go_ret
    exact ⟨_, rfl, World.ownsRow_nil _ _ _ _, Rb.refl _, fun h => absurd h (Nat.lt_irrefl _), fun _ => rfl⟩
  | some ad =>
    obtain ⟨i0, hi0, hz0, hzs, hzb⟩ := info_parts infoV3
    obtain ⟨W0, hW0⟩ : ∃ W0, W0 = w.alloc (.cells #[] 60) := ⟨_, rfl⟩
    have hb0 : Blk W0 w.heap.size 60 [] := by rw [hW0]; exact Blk.new w _ []
    have hr0 : W0.ownsRow w.heap.size 60 3 (.slice (some ⟨w.heap.size, 0, none⟩) 0 0) 0 [] :=
      ⟨rfl, .inr ⟨w.heap.size, 0, #[], rfl, Nat.le_refl _, hb0, Nat.le_refl _, Nat.zero_le _, rfl, rfl⟩⟩
    have hrb : Rb w W0 := by rw [hW0]; exact (Below.refl _ w).alloc (Nat.le_refl _) _
    have hc0 : ∀ j u, (flatE vE L)[j]? = some u → W0.cell? (ad.add j) = some u := fun j u hj => by
      rcases Nat.eq_zero_or_pos L.length with h0 | h0
      · have : L = [] := List.eq_nil_of_length_eq_zero h0
        subst this
        simp [flatE] at hj
      · have := Row3.cells h h0 j u hj
        rw [Below.cell hrb (World.block_lt_of_cell? w _ this)]
        exact this
    have hlen := flatE_len vE L
    unfold maxLen at e3_
    obtain ⟨v', w', hra, h2, h3, h4⟩ := run_append_own (P := Tryz.prog) W0 w.heap.size 32 32 60 i0 _ 3 32 hu hi0 hz0 hzs hzb rfl (by decide) _ 0 [] hr0 ad L.length cap (flatE vE L) hlen hc0 (e3_one_V L) (by unfold maxLen; omega) (by omega) hrb.size
    have hR : Rb w w' := Below.grown (show Below w.heap.size w W0 from hrb) h3 hrb.size (fun k hk => by cases hk; exact Nat.le_refl _)
    have HR := Lib.hid hR
    rw [Nat.zero_add, List.nil_append] at h2
    have HF : Hid (0 < L.length → ∃ g cap, v' = .slice (some ⟨g, 0, none⟩) L.length cap) := fun h0 => by
      rcases h2.2 with ⟨h1, h2⟩ | ⟨g, cap, cur, h1, _⟩
      · omega
      · exact ⟨g, cap, h1⟩
    have H2 := Lib.hid h2
    obtain ⟨n, hn⟩ : ∃ n, n = L.length := ⟨_, rfl⟩
    rw [← hn] at hra e2 ⊢
    rw [hW0] at hra
    have HN := Lib.hid hn
    clear hR h2 h3 h4 hi0 hz0 hzs hzb hr0 hrb hn hW0 e3_ e4 hbig h hlen hc0 hb0
    go_enter Tryz.func47, Tryz.ntmps47
    go_wp2_with (at_builtin; refine wpList_run_append rfl rfl rfl rfl hra ?_)
    go_ret
    exact ⟨_, rfl, by rw [HN.out]; exact H2.out, HR.out, by rw [HN.out]; exact HF.out, fun h => by cases h⟩

set_option maxRecDepth 100000 in
theorem clone3_C (w : World) (v : Value) (L : List ColD) (h : Row3 cE w v L) (hbig : L.length ≤ 1000000) :
    Calls Tryz.prog 40 #[v] w fun e w' => ∃ v', e = .returned v' ∧ w'.ownsRow w.heap.size 88 3 v' L.length (flatE cE L) ∧ Rb w w' ∧ (0 < L.length → ∃ g cap, v' = .slice (some ⟨g, 0, none⟩) L.length cap) ∧ (v = .slice none 0 0 → v' = .slice none 0 0) := by
  have hu := Tryz.underlying67
  have h0 := h
  obtain ⟨ao, cap, rfl, e2, e3_, e4⟩ := h0
  have q22 : ∀ (w : World) (a : Option Addr) (n c n' c' : Nat), (binOp .eql 67 (.slice a n c) (.slice none n' c')).run Tryz.prog w = .ok (.bool a.isNone) w := fun w a n c n' c' => Lib.run_eql_slice_nil w _ _ a n c n' c' hu
  cases ao with
  | none =>
    have h0 : L = [] := List.eq_nil_of_length_eq_zero (by
      rcases Nat.eq_zero_or_pos L.length with h | h
      · exact h
      · obtain ⟨b, o, h, _⟩ := e4 h; cases h)
    subst h0
    clear e4 e2 e3_ h
    go_enter Tryz.func40, Tryz.ntmps40
    go_wp2_with fail
    go_ret
    exact ⟨_, rfl, World.ownsRow_nil _ _ _ _, Rb.refl _, fun h => absurd h (Nat.lt_irrefl _), fun _ => rfl⟩
  | some ad =>
    obtain ⟨i0, hi0, hz0, hzs, hzb⟩ := info_parts infoC3
    obtain ⟨W0, hW0⟩ : ∃ W0, W0 = w.alloc (.cells #[] 88) := ⟨_, rfl⟩
    have hb0 : Blk W0 w.heap.size 88 [] := by rw [hW0]; exact Blk.new w _ []
    have hr0 : W0.ownsRow w.heap.size 88 3 (.slice (some ⟨w.heap.size, 0, none⟩) 0 0) 0 [] :=
      ⟨rfl, .inr ⟨w.heap.size, 0, #[], rfl, Nat.le_refl _, hb0, Nat.le_refl _, Nat.zero_le _, rfl, rfl⟩⟩
    have hrb : Rb w W0 := by rw [hW0]; exact (Below.refl _ w).alloc (Nat.le_refl _) _
    have hc0 : ∀ j u, (flatE cE L)[j]? = some u → W0.cell? (ad.add j) = some u := fun j u hj => by
      rcases Nat.eq_zero_or_pos L.length with h0 | h0
      · have : L = [] := List.eq_nil_of_length_eq_zero h0
        subst this
        simp [flatE] at hj
      · have := Row3.cells h h0 j u hj
        rw [Below.cell hrb (World.block_lt_of_cell? w _ this)]
        exact this
    have hlen := flatE_len cE L
    unfold maxLen at e3_
    obtain ⟨v', w', hra, h2, h3, h4⟩ := run_append_own (P := Tryz.prog) W0 w.heap.size 67 67 88 i0 _ 3 32 hu hi0 hz0 hzs hzb rfl (by decide) _ 0 [] hr0 ad L.length cap (flatE cE L) hlen hc0 (e3_one_C L) (by unfold maxLen; omega) (by omega) hrb.size
    have hR : Rb w w' := Below.grown (show Below w.heap.size w W0 from hrb) h3 hrb.size (fun k hk => by cases hk; exact Nat.le_refl _)
    have HR := Lib.hid hR
    rw [Nat.zero_add, List.nil_append] at h2
    have HF : Hid (0 < L.length → ∃ g cap, v' = .slice (some ⟨g, 0, none⟩) L.length cap) := fun h0 => by
      rcases h2.2 with ⟨h1, h2⟩ | ⟨g, cap, cur, h1, _⟩
      · omega
      · exact ⟨g, cap, h1⟩
    have H2 := Lib.hid h2
    obtain ⟨n, hn⟩ : ∃ n, n = L.length := ⟨_, rfl⟩
    rw [← hn] at hra e2 ⊢
    rw [hW0] at hra
    have HN := Lib.hid hn
    clear hR h2 h3 h4 hi0 hz0 hzs hzb hr0 hrb hn hW0 e3_ e4 hbig h hlen hc0 hb0
    go_enter Tryz.func40, Tryz.ntmps40
    go_wp2_with (at_builtin; refine wpList_run_append rfl rfl rfl rfl hra ?_)
    go_ret
    exact ⟨_, rfl, by rw [HN.out]; exact H2.out, HR.out, by rw [HN.out]; exact HF.out, fun h => by cases h⟩
end Go.Proofs.YtjfpeklfgnajoaaGreat.L6

namespace Go.Proofs.YtjfpeklfgnajoaaGreat.L6
open Go.ChangeShapes Go.WideShapes Go.ChangeAt Go.RowKit By Reg Val
set_option linter.unusedVariables false
set_option linter.unusedSimpArgs false

def layL (k : Int) (y : SV) (L : List Th) : List Th := if y.ao.isNone then delL k L else putL k y L
theorem putL_mem {x : Int} {y : SV} : ∀ {L : List Th} {t : Th}, t ∈ putL x y L → t ∈ L ∨ t = (x, y)
  | [], t, h => by simp [putL] at h; exact .inr h
  | u :: L, t, h => by
    rw [putL] at h
    split at h
    · rcases List.mem_cons.1 h with rfl | h
      · exact .inl (by simp)
      · rcases putL_mem h with h | h
        · exact .inl (by simp [h])
        · exact .inr h
    · split at h
      · rcases List.mem_cons.1 h with rfl | h
        · exact .inr rfl
        · exact .inl (by simp [h])
      · rcases List.mem_cons.1 h with rfl | h
        · exact .inr rfl
        · exact .inl h
theorem layL_mem {x : Int} {y : SV} {L : List Th} {t : Th} (h : t ∈ layL x y L) : t ∈ L ∨ t = (x, y) ∧ y.ao.isNone = false := by
  unfold layL at h
  split at h
  · exact .inl (List.mem_filter.1 h).1
  · rename_i hn
    rcases putL_mem h with h | h
    · exact .inl h
    · exact .inr ⟨h, Bool.eq_false_iff.2 hn⟩
theorem layL_len (x : Int) (y : SV) (L : List Th) : (layL x y L).length ≤ L.length + 1 := by
  unfold layL
  split
  · exact Nat.le_succ_of_le (List.length_filter_le _ _)
  · exact putL_le x y L

/-- what lies of a table behind lay -/
structure Laid7 (w : World) (s : Sh) (k : Int) (y : SV) (w' : World) (s' : Sh) : Prop where
  at_ : ShAt w' s'
  b : s'.b = s.b
  p : s'.p = s.p
  t : s'.t = s.t
  L : s'.L = layL k y s.L
  held : s'.held = s.held
  fr : Fr s.F w w'
  new : ∀ j, s'.F j → s.F j ∨ w.heap.size ≤ j
theorem Laid7.frA {w w' : World} {s s' : Sh} {k : Int} {y : SV} (h : Laid7 w s k y w' s') : Fr s.all w w' := h.fr.mono fun j hj _ => .inr hj
theorem Laid7.newA {w w' : World} {s s' : Sh} {k : Int} {y : SV} (h : Laid7 w s k y w' s') : ∀ j, s'.all j → s.all j ∨ w.heap.size ≤ j := fun j hj => by
  rcases hj with hj | hj
  · exact .inl (.inl (hj.trans h.b))
  · rcases h.new j hj with h | h
    · exact .inl (.inr h)
    · exact .inr h
theorem laid_of {w w' : World} {s : Sh} {k : Int} {y : SV} {F' : Nat → Prop} (h : ShAt w s) (hy : y.ao.isNone = false → VIn w y) (ht : TreeAt w' s.p (layL k y s.L) F') (hf : Fr s.F w w') (hn : ∀ j, F' j → s.F j ∨ w.heap.size ≤ j) :
    Laid7 w s k y w' { s with L := layL k y s.L, F := F' } := by
  have hm : ∀ j, s.F j → j < w.heap.size → MutB w j := fun j hj _ => .of_kind (h.tree.typ j hj)
  exact ⟨⟨h.blk.same (hf.block _ h.blk.lt h.off), ht, owns_fr' h.cols notC hf hm, fun t hm' => by
    rcases layL_mem hm' with h' | ⟨rfl, h'⟩
    · exact (h.rows t h').fr hf hm
    · exact (hy h').fr hf hm⟩, rfl, rfl, rfl, rfl, rfl, hf, hn⟩

set_option maxRecDepth 100000 in
set_option maxHeartbeats 1000000 in
theorem lay_any (w : World) (s : Sh) (k : Int) (y : SV) (h : ShAt w s) (hy : y.ao.isNone = false → VIn w y) (hL : s.L.length ≤ 1000) :
    Calls Tryz.prog 43 #[ptrv s.b, i64 k, sv y] w fun e w' => (∃ v, e = .returned v) ∧ ∃ s', Laid7 w s k y w' s' := by
  have c3 := h.c3
  have q32 : ∀ (w : World) (a : Option Addr) (n c n' c' : Nat), (binOp .eql 32 (.slice a n c) (.slice none n' c')).run Tryz.prog w = .ok (.bool a.isNone) w := fun w a n c n' c' => Lib.run_eql_slice_nil w _ _ a n c n' c' Tryz.underlying32
  have HK : Hid (∀ w' F', TreeAt w' s.p (layL k y s.L) F' → Fr s.F w w' → (∀ j, F' j → s.F j ∨ w.heap.size ≤ j) → ∃ s', Laid7 w s k y w' s') := fun w' F' a b c => ⟨_, laid_of h hy a b c⟩
  cases hn : y.ao.isNone with
  | true =>
    have TD0 := tdel k w s.p s.L s.F h.tree (by omega)
    have e : layL k y s.L = delL k s.L := by unfold layL; rw [if_pos hn]
    rw [e] at HK
    have TD := Lib.hid TD0
    clear h hy hL TD0 e
    obtain ⟨ao, n, c, r⟩ := y
    dsimp only at hn
    unfold TDel at TD
    generalize getL k s.L = gg at *
    generalize s.b = b at *
    go_enter Tryz.func43, Tryz.ntmps43
    go_wp2_with (go_at_call 81; refine TD.out.mono ?_)
    first | (rintro e w' F' rfl h1 h2 h3) | (rintro e w' ⟨F', rfl, h1, h2, h3⟩)
    have HH := Lib.hid (HK.out w' F' h1 h2 h3)
    clear h1 h2 h3
    go_wp2
    refine bodyPost_ret (results_none rfl _ _ _) rfl ?_
    exact ⟨⟨_, rfl⟩, HH.out⟩
  | false =>
    have TD0 := tput k y w s.p s.L s.F h.tree (by omega)
    have e : layL k y s.L = putL k y s.L := by unfold layL; rw [if_neg (by rw [hn]; decide)]
    rw [e] at HK
    have TD := Lib.hid TD0
    clear h hy hL TD0 e
    obtain ⟨ao, n, c, r⟩ := y
    dsimp only at hn
    unfold TPut at TD
    generalize getL k s.L = gg at *
    generalize s.b = b at *
    go_enter Tryz.func43, Tryz.ntmps43
    go_wp2_with (go_at_call 82; refine TD.out.mono ?_)
    first | (rintro e w' F' rfl h1 h2 h3) | (rintro e w' ⟨F', rfl, h1, h2, h3⟩)
    have HH := Lib.hid (HK.out w' F' h1 h2 h3)
    clear h1 h2 h3
    go_wp2
    refine bodyPost_end (results_none rfl _ _ _) rfl ?_
    exact ⟨⟨_, rfl⟩, HH.out⟩

/-! ### Free -/
def freeS (s : Sh) : Int := max (s.t.rows - s.L.length - s.held) 0
def freeSh (l : List Sh) (t : Int) : Int := match shOf l t with | some s => freeS s | none => 0
/-- numbers that are small enough for Go's own -/
structure SmallS (s : Sh) : Prop where
  r0 : 1 ≤ s.t.rows
  r1 : s.t.rows ≤ 64
  len : s.L.length ≤ 1000
  h0 : -1000000 ≤ s.held
  h1 : s.held ≤ 1000000
set_option maxRecDepth 100000 in
set_option maxHeartbeats 1000000 in
theorem free_any (w : World) (b : Nat) (v : Value) (l : List Sh) (t : Int) (h : StAt w b v l) (hs : ∀ s ∈ l, SmallS s) :
    Calls Tryz.prog 23 #[ptrv b, i64 t] w fun e w' => e = .returned (i64 (freeSh l t)) ∧ Rb w w' := by
  have C0 := shelf_any w b v l t h
  unfold freeSh
  cases hsh : shOf l t with
  | none =>
    rw [hsh] at C0
    dsimp only [shPtr] at C0 ⊢
    have C := Lib.hid C0
    clear C0 h hsh hs
    go_enter Tryz.func23, Tryz.ntmps23
    go_wp2_with (go_at_call 42; refine C.out.mono ?_; rintro e w' ⟨rfl, rfl⟩)
    go_ret
    exact ⟨rfl, Rb.refl _⟩
  | some s =>
    rw [hsh] at C0
    dsimp only [shPtr] at C0 ⊢
    have C := Lib.hid C0
    obtain ⟨i, rfl, hi, rfl⟩ := shOf_some hsh
    have hm := List.getElem_mem hi
    obtain ⟨r0, r1, len, h0, h1⟩ := hs _ hm
    have S := h.at_ _ hm
    have CD : ∀ n, Hid (Calls Tryz.prog 46 #[ptrv l[i].p] (w.drewN n) fun e w' => e = .returned (i64 l[i].L.length) ∧ ∃ m, w' = w.drewN m) := fun n =>
      (tlen (w.drewN n) _ _ _ (S.rb (Dn.rb ⟨n, rfl⟩)).tree).mono fun e w' ⟨h1, h2⟩ => ⟨h1, n, h2.symm⟩
    have c1 := S.c1
    have c3 := S.c3
    have c4 := S.c4
    clear C0 h hsh S hm hs
    unfold freeS
    generalize l[i] = s at *
    obtain ⟨sb, sp, st, sL, sh, sF⟩ := s
    obtain ⟨nm, rw_, cv, cols⟩ := st
    dsimp only at *
    generalize sL.length = n at *
    have k1 : IntKind.i64.wrap (rw_ - n) = rw_ - n := by rw [IntKind.wrap_i64]; omega
    have k2 : IntKind.i64.wrap (rw_ - n - sh) = rw_ - n - sh := by rw [IntKind.wrap_i64]; omega
    have K1 := Lib.hid k1
    have K2 := Lib.hid k2
    clear k1 k2
    have w1 : wrap64 (rw_ - n) = rw_ - n := by unfold wrap64; omega
    have w2 : wrap64 (rw_ - n - sh) = rw_ - n - sh := by unfold wrap64; omega
    go_enter Tryz.func23, Tryz.ntmps23
    go_wp2_with (go_at_call 42; refine C.out.mono ?_; rintro e w' ⟨rfl, rfl⟩)
    go_quiet (exact (CD _).out)
    go_wp2
    go_ret
    refine ⟨?_, ?_⟩
    · rfl
    · exact Dn.rb ⟨_, rfl⟩
end Go.Proofs.YtjfpeklfgnajoaaGreat.L6

namespace Go.Proofs.YtjfpeklfgnajoaaGreat.L6
open Go.ChangeShapes Go.WideShapes Go.ChangeAt Go.RowKit By Reg Val
set_option linter.unusedVariables false
set_option linter.unusedSimpArgs false

def getSh (l : List Sh) (t k : Int) : Option SV := match shOf l t with | some s => getL k s.L | none => none
theorem getL_mem {k : Int} : ∀ {L : List Th} {y : SV}, getL k L = some y → (k, y) ∈ L
  | [], y, h => by cases h
  | u :: L, y, h => by
    rw [getL] at h
    split at h
    · rename_i hk; cases h; subst hk; simp
    · exact List.mem_cons_of_mem _ (getL_mem h)
theorem getSh_in {w : World} {b : Nat} {v : Value} {l : List Sh} {t k : Int} {y : SV} (h : StAt w b v l) (hg : getSh l t k = some y) : VIn w y := by
  unfold getSh at hg
  cases hs : shOf l t with
  | none => rw [hs] at hg; cases hg
  | some s =>
    rw [hs] at hg
    obtain ⟨i, _, hi, rfl⟩ := shOf_some hs
    exact (h.at_ _ (List.getElem_mem hi)).rows _ (getL_mem hg)
theorem vals_nil (w : World) : Vals w (sv sv0) [] := ⟨none, 0, rfl, Nat.le_refl _, Nat.zero_le _, fun h => absurd h (Nat.lt_irrefl _)⟩
theorem getSh_vals {w : World} {b : Nat} {v : Value} {l : List Sh} {t k : Int} (h : StAt w b v l) : Vals w (sv ((getSh l t k).getD sv0)) ((getSh l t k).getD sv0).row := by
  cases hg : getSh l t k with
  | none => exact vals_nil w
  | some y => exact (getSh_in h hg).vals

/-- what Get of what lying answers gives -/
theorem get_lying {w : World} {b : Nat} {v : Value} {l : List Sh} {t k : Int} (h : StAt w b v l) :
    Calls Tryz.prog 45 #[trPtr (shOf l t), i64 k] w fun e w' => e = .returned (.tuple #[sv ((getSh l t k).getD sv0), .bool (getSh l t k).isSome]) ∧ Rb w w' := by
  unfold getSh
  cases hs : shOf l t with
  | none => exact (none_get w k).mono fun e w' ⟨h1, h2⟩ => ⟨h1, by rw [← h2]; exact Rb.refl _⟩
  | some s =>
    obtain ⟨i, _, hi, rfl⟩ := shOf_some hs
    exact tget k w _ _ _ (h.at_ _ (List.getElem_mem hi)).tree

/-- what Row answers -/
def RowPost (w : World) (g : Option SV) (e : Ending) (w' : World) : Prop :=
  ∃ v', e = .returned (.tuple #[v', .bool g.isSome]) ∧ VRow w' w.heap.size v' (g.getD sv0).row ∧ Rb w w' ∧ (0 < (g.getD sv0).row.length → ∃ j cap, v' = .slice (some ⟨j, 0, none⟩) (g.getD sv0).row.length cap) ∧ (g = none → v' = .slice none 0 0)

set_option maxRecDepth 100000 in
set_option maxHeartbeats 1000000 in
theorem row_any (w : World) (b : Nat) (v : Value) (l : List Sh) (t k : Int) (h : StAt w b v l) (hr : ((getSh l t k).getD sv0).row.length ≤ 1000) :
    Calls Tryz.prog 15 #[ptrv b, i64 t, i64 k] w (RowPost w (getSh l t k)) := by
  have C := Lib.hid (lying_any w b v l t h)
  have CG := Lib.hid (get_lying (t := t) (k := k) h)
  have CL : Hid (∀ w', Rb w w' → Calls Tryz.prog 47 #[sv ((getSh l t k).getD sv0)] w' _) := fun w' hw => clone3_V w' _ ((getSh l t k).getD sv0).row ((getSh_vals h).rb hw) (by omega)
  clear h hr
  unfold RowPost
  generalize trPtr (shOf l t) = tp at *
  have HE : Hid (getSh l t k = none → sv ((getSh l t k).getD sv0) = .slice none 0 0) := fun e => by rw [e]; rfl
  generalize getSh l t k = gg at *
  obtain ⟨y, hy⟩ : ∃ y, y = gg.getD sv0 := ⟨_, rfl⟩
  rw [← hy] at CG CL HE ⊢
  clear hy
  obtain ⟨ao, n, c, r⟩ := y
  obtain ⟨ok, hok⟩ : ∃ ok, ok = gg.isSome := ⟨_, rfl⟩
  rw [← hok] at CG ⊢
  clear hok
  dsimp only at *
  go_enter Tryz.func15, Tryz.ntmps15
  go_wp2_with (first | (go_at_call 52; refine C.out.mono ?_; rintro e w' ⟨rfl, rfl⟩) | (go_at_call 45; refine CG.out.mono ?_))
  rintro e w1 ⟨rfl, h1⟩
  have H1 := Lib.hid h1
  have CC := Lib.hid (CL.out w1 h1)
  clear CL h1
  go_wp2_with (go_at_call 47; refine CC.out.mono ?_)
  rintro e w2 ⟨v', rfl, h2, h3, h4, h5⟩
  have HH : Hid (VRow w2 w.heap.size v' r ∧ Rb w w2 ∧ (0 < r.length → ∃ j cap, v' = .slice (some ⟨j, 0, none⟩) r.length cap) ∧ (gg = none → v' = .slice none 0 0)) :=
    ⟨World.ownsRow.mono h2 H1.out.size, Rb.trans _ _ _ H1.out h3, h4, fun e => h5 (HE.out e)⟩
  clear h2 h3 h4 h5
  go_wp2
  go_ret2
  exact ⟨_, rfl, HH.out⟩
end Go.Proofs.YtjfpeklfgnajoaaGreat.L6

namespace Go.Proofs.YtjfpeklfgnajoaaGreat.L6
open Go.ChangeShapes Go.WideShapes Go.ChangeAt Go.RowKit By Reg Val Go.MapKept
open Go.ChangeMaps (setBlock)
set_option linter.unusedVariables false
set_option linter.unusedSimpArgs false

abbrev Spot := Int × Int
abbrev spV (p : Spot) : Value := .agg #[i64 p.1, i64 p.2]
def I64 (x : Int) : Prop := -9223372036854775808 ≤ x ∧ x ≤ 9223372036854775807
def SpOk (p : Spot) : Prop := I64 p.1 ∧ I64 p.2
theorem I64.wf {x : Int} (h : I64 x) : (Lit.int .i64 x).wf = true := by
  obtain ⟨h1, h2⟩ := h
  have e1 : IntKind.i64.min = -9223372036854775808 := by decide
  have e2 : IntKind.i64.max = 9223372036854775807 := by decide
  simp [Lit.wf, e1, e2]
  omega

theorem laidOut7 : laidOutB Tryz.prog = true := by kernel_rfl
theorem row_sp : (111 : TypeId) < Tryz.prog.types.size := of_decide_eq_true (by kernel_rfl)
theorem wide_sp : (match Tryz.prog.underlying 111 with | some (.array _ _) | some (.struct _) => true | _ => false) = true := by kernel_rfl
set_option maxRecDepth 100000 in
theorem spot_law : WideMaps.KeyLaw Tryz.prog 111 := deep_law_laid laidOut7 (m := 2) (by omega) row_sp (by kernel_rfl) wide_sp
theorem spotK : Maps.Keyed Tryz.prog 111 := Maps.Keyed.of_law spot_law
theorem keyT_sp : Tryz.prog.keyType 111 = true := by kernel_rfl
theorem cells_sp : Tryz.prog.cellsOf 111 = 2 := by kernel_rfl
theorem struct_sp : ∃ f0 f1 : Field, Tryz.prog.underlying 111 = some (.struct #[f0, f1]) ∧ f0.offset = 0 ∧ f1.offset = 1 ∧ f0.type = 3 ∧ f1.type = 2 ∧ (f0.name != "_") = true ∧ (f1.name != "_") = true :=
  ⟨_, _, Tryz.underlying111, rfl, rfl, rfl, rfl, by decide, by decide⟩
theorem spot_key (p : Spot) (h : SpOk p) : ∃ l, keyOf Tryz.prog 111 (spV p) = some l := by
  obtain ⟨f0, f1, hu, o0, o1, t0, t1, n0, n1⟩ := struct_sp
  have c3 : Tryz.prog.cellsOf 3 = 1 := by kernel_rfl
  have c2 : Tryz.prog.cellsOf 2 = 1 := by kernel_rfl
  obtain ⟨z, hs⟩ : ∃ z, Tryz.prog.types.size = z + 1 := ⟨Tryz.prog.types.size - 1, by have : 0 < Tryz.prog.types.size := Nat.lt_of_le_of_lt (Nat.zero_le _) row_sp; omega⟩
  have hf : (spV p).formed Tryz.prog 111 = true := by simp [Value.formed, hu, cells_sp]
  have k1 : ∀ d, Program.keyLits Tryz.prog (d + 1) 3 [i64 p.1] = some [.int .i64 p.1] := fun d => by
    simp [Program.keyLits, Tryz.underlying3, h.1.wf]
  have k2 : ∀ d, Program.keyLits Tryz.prog (d + 1) 2 [i64 p.2] = some [.int .i64 p.2] := fun d => by
    simp [Program.keyLits, Tryz.underlying2, h.2.wf]
  unfold keyOf
  rw [hu]
  simp only [keyT_sp, hf, Bool.and_self, if_true]
  rw [hs]
  unfold Program.keyLits
  simp only [hu]
  simp [Value.cells, cells_sp, o0, o1, t0, t1, n0, n1, c2, c3, k1, k2]

/-! ### a map in memory -/
def MapAt (w : World) (m : Nat) (l : List (Spot × SV)) : Prop :=
  ∃ es clock, w.heap[m]? = some (.map es clock) ∧ Stamped es clock ∧ es.toList.map (fun e => (e.key, e.val)) = l.map (fun p => (spV p.1, sv p.2))
theorem MapAt.lt {w : World} {m : Nat} {l : List (Spot × SV)} (h : MapAt w m l) : m < w.heap.size := by
  obtain ⟨es, c, hb, _⟩ := h
  exact (Array.getElem?_eq_some_iff.1 hb).1
theorem MapAt.same {w w' : World} {m : Nat} {l : List (Spot × SV)} (h : MapAt w m l) (e : w'.heap[m]? = w.heap[m]?) : MapAt w' m l := by
  obtain ⟨es, c, hb, h2⟩ := h
  exact ⟨es, c, e.trans hb, h2⟩
theorem MapAt.rb {w w' : World} {m : Nat} {l : List (Spot × SV)} (h : MapAt w m l) (hb : Rb w w') : MapAt w' m l := h.same (hb.block m h.lt)
theorem MapAt.mutb {w : World} {m : Nat} {l : List (Spot × SV)} (h : MapAt w m l) : MutB w m := by
  obtain ⟨es, c, hb, _⟩ := h
  exact .inr ⟨es, c, hb⟩
theorem spV_inj {p q : Spot} (h : spV p = spV q) : p = q := by
  have h1 : #[i64 p.1, i64 p.2] = #[i64 q.1, i64 q.2] := by simpa using h
  have h2 := Array.mk.inj h1
  simp at h2
  exact Prod.ext h2.1 h2.2
theorem pairs_get {es : List MapEntry} {l : List (Spot × SV)} (h : es.map (fun e => (e.key, e.val)) = l.map (fun p => (spV p.1, sv p.2))) {j : Nat} {e : MapEntry} (hj : es[j]? = some e) : ∃ p, l[j]? = some p ∧ e.key = spV p.1 ∧ e.val = sv p.2 := by
  have h1 := congrArg (fun x => x[j]?) h
  simp only [List.getElem?_map, hj, Option.map_some] at h1
  cases hl : l[j]? with
  | none => rw [hl] at h1; cases h1
  | some p =>
    rw [hl] at h1
    simp only [Option.map_some, Option.some.injEq, Prod.mk.injEq] at h1
    exact ⟨p, rfl, h1.1, h1.2⟩
theorem pairs_mem {es : List MapEntry} {l : List (Spot × SV)} (h : es.map (fun e => (e.key, e.val)) = l.map (fun p => (spV p.1, sv p.2))) {e : MapEntry} (hm : e ∈ es) : ∃ p ∈ l, e.key = spV p.1 ∧ e.val = sv p.2 := by
  obtain ⟨j, hj⟩ := List.mem_iff_getElem?.1 hm
  obtain ⟨p, hp, h1, h2⟩ := pairs_get h hj
  exact ⟨p, List.mem_of_getElem? hp, h1, h2⟩
theorem pairs_len {es : List MapEntry} {l : List (Spot × SV)} (h : es.map (fun e => (e.key, e.val)) = l.map (fun p => (spV p.1, sv p.2))) : es.length = l.length := by
  have := congrArg List.length h
  simpa using this

/-- the keys are apart -/
theorem MapAt.nodup {w : World} {m : Nat} {l : List (Spot × SV)} (h : MapAt w m l) : (l.map (·.1)).Nodup := by
  obtain ⟨es, c, hb, hs, hl⟩ := h
  have h3 := ((stamped_iff es c).1 hs).2.2
  have h4 : (es.toList.map (·.key)).Nodup := List.pairwise_map.2 h3
  have h5 : es.toList.map (·.key) = (l.map (·.1)).map spV := by
    have := congrArg (List.map Prod.fst) hl
    simpa [List.map_map, Function.comp_def] using this
  rw [h5] at h4
  exact (List.pairwise_map.1 h4).imp fun {a b} hab e => hab (by rw [e])

def getM (p : Spot) : List (Spot × SV) → Option SV
  | [] => none
  | x :: l => if x.1 = p then some x.2 else getM p l
def putM (p : Spot) (y : SV) : List (Spot × SV) → List (Spot × SV)
  | [] => [(p, y)]
  | x :: l => if x.1 = p then (p, y) :: l else x :: putM p y l
theorem getM_none {p : Spot} : ∀ {l : List (Spot × SV)}, (∀ x ∈ l, x.1 ≠ p) → getM p l = none
  | [], _ => rfl
  | x :: l, h => by
    rw [getM, if_neg (h x (by simp))]
    exact getM_none fun y hy => h y (by simp [hy])
theorem getM_at {p : Spot} {y : SV} : ∀ {l : List (Spot × SV)} {j : Nat}, (l.map (·.1)).Nodup → l[j]? = some (p, y) → getM p l = some y
  | [], j, _, h => by simp at h
  | x :: l, 0, _, h => by
    simp at h
    subst h
    rw [getM, if_pos rfl]
  | x :: l, j + 1, hn, h => by
    have hn' := List.nodup_cons.1 (show (x.1 :: l.map (·.1)).Nodup from hn)
    have h' : l[j]? = some (p, y) := by simpa using h
    rw [getM, if_neg fun e => hn'.1 (by rw [e]; exact List.mem_map.2 ⟨_, List.mem_of_getElem? h', rfl⟩)]
    exact getM_at hn'.2 h'
theorem putM_none {p : Spot} {y : SV} : ∀ {l : List (Spot × SV)}, (∀ x ∈ l, x.1 ≠ p) → putM p y l = l ++ [(p, y)]
  | [], _ => rfl
  | x :: l, h => by
    rw [putM, if_neg (h x (by simp)), putM_none fun y hy => h y (by simp [hy])]
    rfl
theorem putM_at {p : Spot} {y z : SV} : ∀ {l : List (Spot × SV)} {j : Nat}, (l.map (·.1)).Nodup → l[j]? = some (p, z) → putM p y l = l.set j (p, y)
  | [], j, _, h => by simp at h
  | x :: l, 0, _, h => by
    simp at h
    subst h
    rw [putM, if_pos rfl]
    rfl
  | x :: l, j + 1, hn, h => by
    have hn' := List.nodup_cons.1 (show (x.1 :: l.map (·.1)).Nodup from hn)
    have h' : l[j]? = some (p, z) := by simpa using h
    rw [putM, if_neg fun e => hn'.1 (by rw [e]; exact List.mem_map.2 ⟨_, List.mem_of_getElem? h', rfl⟩), putM_at hn'.2 h']
    rfl

theorem zero_rows (w : World) : (zeroValue 32).run Tryz.prog w = .ok (.slice none 0 0) w := by kernel_rfl

/-- 'm[p]', with its 'ok' -/
theorem run_lookup_map {w : World} {m : Nat} {l : List (Spot × SV)} (h : MapAt w m l) (hk : ∀ x ∈ l, SpOk x.1) (p : Spot) (hp : SpOk p) (ok : Bool) :
    (Instr.lookup 120 (.map (some m)) (spV p) ok).run Tryz.prog w = .ok (if ok then .tuple #[sv ((getM p l).getD sv0), .bool (getM p l).isSome] else sv ((getM p l).getD sv0)) w := by
  have hn := h.nodup
  obtain ⟨es, c, hb, hs, hl⟩ := h
  obtain ⟨kl, hkl⟩ := spot_key p hp
  have hkeys : ∀ e ∈ es.toList, ∃ l, keyOf Tryz.prog 111 e.key = some l := fun e he => by
    obtain ⟨x, hx, h1, _⟩ := pairs_mem hl he
    rw [h1]
    exact spot_key _ (hk x hx)
  rcases spotK.find w hkl es.toList hkeys with ⟨h1, h2⟩ | ⟨j, e0, h1, h2, h3⟩
  · have hg : getM p l = none := getM_none fun x hx e => by
      have : (spV x.1, sv x.2) ∈ es.toList.map (fun e => (e.key, e.val)) := by rw [hl]; exact List.mem_map.2 ⟨x, hx, rfl⟩
      obtain ⟨e0, he0, he⟩ := List.mem_map.1 this
      simp only [Prod.mk.injEq] at he
      exact h2 e0 he0 (by rw [he.1, e])
    rw [hg]
    cases ok <;> simp [Instr.lookup, run_underlying Tryz.underlying120, MapKept.run_getObj_map hb, spotK.check w _ hkl, h1, zero_rows, Result.andThen]
  · obtain ⟨x, hx, k1, k2⟩ := pairs_get hl h2
    have hxp : x.1 = p := spV_inj (by rw [← k1, h3])
    have hg : getM p l = some x.2 := getM_at hn (j := j) (by rw [hx, ← hxp])
    rw [hg]
    cases ok <;> simp [Instr.lookup, run_underlying Tryz.underlying120, MapKept.run_getObj_map hb, spotK.check w _ hkl, h1, k2, Result.andThen]

theorem wrote_setBlock {w : World} {m : Nat} (o : Obj) : Wrote m w (setBlock w m o) := by
  refine ⟨rfl, rfl, rfl, by simp [setBlock], fun k hk => ?_⟩
  simp only [setBlock]
  rw [Array.getElem?_setIfInBounds_ne (fun e => hk e.symm)]
theorem setBlock_at {w : World} {m : Nat} {o0 : Obj} (hb : w.heap[m]? = some o0) (o : Obj) : (setBlock w m o).heap[m]? = some o := by
  have := (Array.getElem?_eq_some_iff.1 hb).1
  simp [setBlock, this]

/-- 'm[p] = y' -/
theorem run_store_map {w : World} {m : Nat} {l : List (Spot × SV)} (h : MapAt w m l) (hk : ∀ x ∈ l, SpOk x.1) (p : Spot) (hp : SpOk p) (y : SV) :
    ∃ w', (Instr.mapUpdate 120 (.map (some m)) (spV p) (sv y)).run Tryz.prog w = .ok () w' ∧ MapAt w' m (putM p y l) ∧ Wrote m w w' := by
  have hn := h.nodup
  obtain ⟨es, c, hb, hs, hl⟩ := h
  obtain ⟨kl, hkl⟩ := spot_key p hp
  have hkeys : ∀ e ∈ es.toList, ∃ l, keyOf Tryz.prog 111 e.key = some l := fun e he => by
    obtain ⟨x, hx, h1, _⟩ := pairs_mem hl he
    rw [h1]
    exact spot_key _ (hk x hx)
  rcases spotK.find w hkl es.toList hkeys with ⟨h1, h2⟩ | ⟨j, e0, h1, h2, h3⟩
  · have hg : putM p y l = l ++ [(p, y)] := putM_none fun x hx e => by
      have : (spV x.1, sv x.2) ∈ es.toList.map (fun e => (e.key, e.val)) := by rw [hl]; exact List.mem_map.2 ⟨x, hx, rfl⟩
      obtain ⟨e0, he0, he⟩ := List.mem_map.1 this
      simp only [Prod.mk.injEq] at he
      exact h2 e0 he0 (by rw [he.1, e])
    rw [hg]
    refine ⟨setBlock w m (.map (es.push ⟨spV p, sv y, c⟩) (c + 1)), ?_, ⟨_, _, setBlock_at hb _, stamped_push hs h2, ?_⟩, wrote_setBlock _⟩
    · simp [Instr.mapUpdate, run_underlying Tryz.underlying120, MapKept.run_getObj_map hb, spotK.check w false hkl, h1, MapKept.run_setObj_map _ hb, Result.andThen, setBlock]
    · simp [hl]
  · obtain ⟨x, hx, k1, k2⟩ := pairs_get hl h2
    have hxp : x.1 = p := spV_inj (by rw [← k1, h3])
    have hg : putM p y l = l.set j (p, y) := putM_at hn (z := x.2) (by rw [hx, ← hxp])
    have hj : es[j]? = some e0 := by simpa using h2
    have hlist : (es.modify j (fun e' => { e' with key := spV p, val := sv y })).toList = es.toList.set j { e0 with key := spV p, val := sv y } := by rw [Array.toList_modify, ChangeMaps.modify_eq_set _ _ _ _ h2]
    rw [hg]
    refine ⟨setBlock w m (.map (es.modify j fun e' => { e' with key := spV p, val := sv y }) c), ?_, ⟨_, _, setBlock_at hb _, stamped_modify hs j _ (fun _ _ => rfl) (fun e' _ he' => by rw [hj] at he'; cases he'; exact h3.symm), ?_⟩, wrote_setBlock _⟩
    · have hst : (Instr.keyThatStays e0.key (spV p)).run Tryz.prog w = .ok (spV p) w := by rw [h3]; exact spotK.stays w hkl
      simp [Instr.mapUpdate, run_underlying Tryz.underlying120, MapKept.run_getObj_map hb, spotK.check w false hkl, h1, hj, hst, MapKept.run_setObj_map _ hb, Result.andThen, setBlock]
    · rw [hlist, List.map_set, hl, List.map_set]

/-- 'clear(m)' -/
theorem run_clear_map {w : World} {m : Nat} {l : List (Spot × SV)} (h : MapAt w m l) :
    ∃ w', (∀ ty, (Builtin.clear_ #[120] ty #[.map (some m)]).run Tryz.prog w = .ok (.tuple #[]) w') ∧ MapAt w' m [] ∧ Wrote m w w' := by
  obtain ⟨es, c, hb, hs, hl⟩ := h
  refine ⟨setBlock w m (.map #[] c), fun ty => ?_, ⟨_, _, setBlock_at hb _, stamped_empty c, rfl⟩, wrote_setBlock _⟩
  simp [Builtin.clear_, run_underlying Tryz.underlying120, MapKept.run_getObj_map hb, MapKept.run_setObj_map _ hb, Result.andThen, setBlock]
theorem mapAt_made (w : World) : MapAt (w.alloc (.map #[] 0)) w.heap.size [] := ⟨#[], 0, (MapKept.heap_alloc w _).1, stamped_empty 0, rfl⟩
end Go.Proofs.YtjfpeklfgnajoaaGreat.L6

namespace Go.Proofs.YtjfpeklfgnajoaaGreat.L6
open Go.ChangeShapes Go.WideShapes Go.ChangeAt Go.RowKit By Reg Val
set_option linter.unusedVariables false
set_option linter.unusedSimpArgs false

structure ClD where
  b : Nat
  st : Nat
  hv : Value
  fv : Value
  m : Nat
  held : List Int
  first : List Int
  tch : List (Spot × SV)
def ClD.all (c : ClD) (k : Nat) : Prop := k = c.b ∨ c.hv.ownBlock = some k ∨ c.fv.ownBlock = some k ∨ k = c.m
structure ClAt (w : World) (c : ClD) : Prop where
  blk : Blk w c.b 122 [ptrv c.st, c.hv, c.fv, .map (some c.m)]
  rh : Row w 3 c.hv (c.held.map i64)
  rf : Row w 3 c.fv (c.first.map i64)
  map : MapAt w c.m c.tch
  ok : ∀ x ∈ c.tch, SpOk x.1
  rows : ∀ x ∈ c.tch, (x.2 = sv0 ∨ VIn w x.2)
  apart : ∀ k, c.hv.ownBlock = some k → c.fv.ownBlock ≠ some k
namespace ClAt
variable {w w' : World} {c : ClD}
theorem lt (h : ClAt w c) : ∀ k, c.all k → k < w.heap.size := fun k hk => by
  rcases hk with rfl | hk | hk | rfl
  · exact h.blk.lt
  · exact h.rh.lt k hk
  · exact h.rf.lt k hk
  · exact h.map.lt
theorem mutb (h : ClAt w c) : ∀ k, c.all k → MutB w k := fun k hk => by
  rcases hk with rfl | hk | hk | rfl
  · exact .inl ⟨_, _, h.blk, .inr (.inr (.inl rfl))⟩
  · obtain ⟨cs, hb⟩ := h.rh.typ k hk
    exact .inl ⟨_, _, hb, .inr (.inr (.inr rfl))⟩
  · obtain ⟨cs, hb⟩ := h.rf.typ k hk
    exact .inl ⟨_, _, hb, .inr (.inr (.inr rfl))⟩
  · exact h.map.mutb
theorem fr {F : Nat → Prop} (h : ClAt w c) (hf : Fr F w w') (hF : ∀ k, F k → k < w.heap.size → MutB w k) (ho : ∀ k, c.all k → ¬ F k) : ClAt w' c :=
  ⟨h.blk.same (hf.block _ h.blk.lt (ho _ (.inl rfl))), h.rh.same fun k hk => hf.block k (h.rh.lt k hk) (ho k (.inr (.inl hk))), h.rf.same fun k hk => hf.block k (h.rf.lt k hk) (ho k (.inr (.inr (.inl hk)))),
    h.map.same (hf.block _ h.map.lt (ho _ (.inr (.inr (.inr rfl))))), h.ok, fun x hx => (h.rows x hx).imp id fun hv => hv.fr hf hF, h.apart⟩
theorem rb (h : ClAt w c) (hb : Rb w w') : ClAt w' c := h.fr (F := fun _ => False) (Fr.of_rb hb) (fun k h => h.elim) fun k _ h => h
theorem c0 (h : ClAt w c) : w.cell? ⟨c.b, 0, none⟩ = some (ptrv c.st) := h.blk.cell 0
theorem c1 (h : ClAt w c) : w.cell? ⟨c.b, 1, none⟩ = some c.hv := h.blk.cell 1
theorem c2 (h : ClAt w c) : w.cell? ⟨c.b, 2, none⟩ = some c.fv := h.blk.cell 2
theorem c3 (h : ClAt w c) : w.cell? ⟨c.b, 3, none⟩ = some (.map (some c.m)) := h.blk.cell 3
theorem hform (h : ClAt w c) : ∃ ao cap, c.hv = .slice ao c.held.length cap ∧ c.held.length ≤ cap ∧ cap ≤ maxLen := by simpa using h.rh.form
theorem fform (h : ClAt w c) : ∃ ao cap, c.fv = .slice ao c.first.length cap ∧ c.first.length ≤ cap ∧ cap ≤ maxLen := by simpa using h.rf.form
theorem nb (h : ClAt w c) : c.hv.ownBlock ≠ some c.b ∧ c.fv.ownBlock ≠ some c.b ∧ c.m ≠ c.b := by
  refine ⟨h.rh.not_blk h.blk (by decide), h.rf.not_blk h.blk (by decide), fun e => ?_⟩
  obtain ⟨es, cl, hb, _⟩ := h.map
  have := h.blk
  unfold Blk at this
  rw [e, this] at hb
  cases hb
theorem nm (h : ClAt w c) : c.hv.ownBlock ≠ some c.m ∧ c.fv.ownBlock ≠ some c.m := by
  obtain ⟨es, cl, hb, _⟩ := h.map
  refine ⟨fun e => ?_, fun e => ?_⟩
  · obtain ⟨cs, hb'⟩ := h.rh.typ _ e
    unfold Blk at hb'
    rw [hb] at hb'
    cases hb'
  · obtain ⟨cs, hb'⟩ := h.rf.typ _ e
    unfold Blk at hb'
    rw [hb] at hb'
    cases hb'
end ClAt

theorem open_yes (w : World) (c : ClD) (h : ClAt w c) : Calls Tryz.prog 68 #[ptrv c.b] w fun e w' => e = .returned (.bool true) ∧ w = w' := by
  have c0 := h.c0
  clear h
  go_enter Tryz.func68, Tryz.ntmps68
  go_wp2
  go_ret
  exact ⟨rfl, rfl⟩
/-- a claim that is closed -/
def Shut (w : World) (b : Nat) : Prop := Blk w b 122 [.pointer none, .slice none 0 0, .slice none 0 0, .map none]
theorem open_shut (w : World) (b : Nat) (h : Shut w b) : Calls Tryz.prog 68 #[ptrv b] w fun e w' => e = .returned (.bool false) ∧ w = w' := by
  have c0 := Blk.cell h 0
  clear h
  go_enter Tryz.func68, Tryz.ntmps68
  go_wp2
  go_ret
  exact ⟨rfl, rfl⟩
theorem open_nil (w : World) : Calls Tryz.prog 68 #[.pointer none] w fun e w' => e = .returned (.bool false) ∧ w = w' := by
  go_enter Tryz.func68, Tryz.ntmps68
  go_wp2
  go_ret
  exact ⟨rfl, rfl⟩

/-- Held -/
def heldOf (l : List Int) (t : Int) : Int := if 0 ≤ t then (l[t.toNat]?).getD 0 else 0
set_option maxRecDepth 100000 in
theorem held_any (w : World) (c : ClD) (t : Int) (h : ClAt w c) : Calls Tryz.prog 29 #[ptrv c.b, i64 t] w fun e w' => e = .returned (i64 (heldOf c.held t)) ∧ w = w' := by
  have C := Lib.hid (open_yes w c h)
  have c1 := h.c1
  unfold heldOf
  by_cases h0 : 0 ≤ t
  · rw [if_pos h0]
    obtain ⟨k, rfl⟩ := Int.eq_ofNat_of_zero_le h0
    rw [Int.toNat_natCast]
    by_cases hk : k < c.held.length
    · obtain ⟨g, cap, e1, e2, e3, e4⟩ := h.rh.int_at (j := k) hk
      rw [e1] at c1
      rw [List.getD_eq_getElem?_getD] at e4
      clear h e1
      generalize c.held[k]?.getD 0 = r at *
      generalize c.held.length = n at *
      generalize c.b = b at *
      go_enter Tryz.func29, Tryz.ntmps29
      go_wp2_with (go_at_call 68; refine C.out.mono ?_; rintro e w' ⟨rfl, rfl⟩)
      go_ret
      exact ⟨rfl, rfl⟩
    · obtain ⟨ao, cap, e1, e2, e3⟩ := h.hform
      rw [List.getElem?_eq_none (by omega)]
      rw [e1] at c1
      clear h e1
      generalize c.held.length = n at *
      generalize c.b = b at *
      dsimp only [Option.getD]
      go_enter Tryz.func29, Tryz.ntmps29
      go_wp2_with (go_at_call 68; refine C.out.mono ?_; rintro e w' ⟨rfl, rfl⟩)
      go_ret
      exact ⟨rfl, rfl⟩
  · rw [if_neg h0]
    clear h c1
    generalize c.b = b at *
    go_enter Tryz.func29, Tryz.ntmps29
    go_wp2_with (go_at_call 68; refine C.out.mono ?_; rintro e w' ⟨rfl, rfl⟩)
    go_ret
    exact ⟨rfl, rfl⟩
theorem held_shut (w : World) (b : Nat) (t : Int) (h : Shut w b) : Calls Tryz.prog 29 #[ptrv b, i64 t] w fun e w' => e = .returned (i64 0) ∧ w = w' := by
  have C := Lib.hid (open_shut w b h)
  clear h
  go_enter Tryz.func29, Tryz.ntmps29
  go_wp2_with (go_at_call 68; refine C.out.mono ?_; rintro e w' ⟨rfl, rfl⟩)
  go_ret
  exact ⟨rfl, rfl⟩
theorem held_nil (w : World) (t : Int) : Calls Tryz.prog 29 #[.pointer none, i64 t] w fun e w' => e = .returned (i64 0) ∧ w = w' := by
  go_enter Tryz.func29, Tryz.ntmps29
  go_wp2_with (go_at_call 68; refine (open_nil _).mono ?_; rintro e w' ⟨rfl, rfl⟩)
  go_ret
  exact ⟨rfl, rfl⟩
end Go.Proofs.YtjfpeklfgnajoaaGreat.L6

namespace Go.Proofs.YtjfpeklfgnajoaaGreat.L6
open Go.ChangeShapes Go.WideShapes Go.ChangeAt Go.RowKit By Reg Val
set_option linter.unusedVariables false
set_option linter.unusedSimpArgs false

theorem sizeint7 : (Tryz.prog.info? 3).map (·.size) = some 1 := by kernel_rfl
theorem sizeints : (Tryz.prog.info? 43).map (·.size) = some 1 := by kernel_rfl
theorem Row.blk_at {w : World} {e : TypeId} {v : Value} {xs : List Value} (h : Row w e v xs) (h0 : 0 < xs.length) : ∃ g rest, v = .slice (some ⟨g, 0, none⟩) xs.length (xs.length + rest.length) ∧ Blk w g e (xs ++ rest) ∧ xs.length + rest.length ≤ maxLen := by
  rcases h.cases' with ⟨_, rfl⟩ | h
  · simp at h0
  · exact h
/-- a cell of a row turned -/
theorem Row.set_at {w : World} {e : TypeId} {g : Nat} {xs rest : List Value} {i : Nat} {u : Value} (hb : Blk w g e ((xs ++ rest).take i ++ u :: (xs ++ rest).drop (i + 1))) (hi : i < xs.length) (hm : xs.length + rest.length ≤ maxLen) : Row w e (.slice (some ⟨g, 0, none⟩) xs.length (xs.length + rest.length)) (xs.set i u) := by
  have e1 : (xs ++ rest).take i ++ u :: (xs ++ rest).drop (i + 1) = xs.set i u ++ rest := by
    obtain ⟨A, c, B, e, hA⟩ : ∃ A c B, xs = A ++ c :: B ∧ A.length = i := ⟨xs.take i, xs[i], xs.drop (i + 1), by simp, by simp; omega⟩
    subst e; subst hA
    simp [List.drop_append, List.set_append_right]
  rw [e1] at hb
  have := Row.mk' hb (by rw [List.length_set]; exact hm)
  rw [List.length_set] at this
  exact this

/-- what hold leaves -/
structure HoldP (w : World) (v : Value) (A B : List Sh) (s : Sh) (c : ClD) (n : Int) (w' : World) : Prop where
  st : StAt w' c.st v (A ++ { s with held := s.held + (n - c.held.getD A.length 0) } :: B)
  cl : ClAt w' { c with held := c.held.set A.length n }
  fr : Fr (fun k => k = s.b ∨ c.hv.ownBlock = some k) w w'

set_option maxRecDepth 100000 in
set_option maxHeartbeats 1000000 in
theorem hold_any (w : World) (v : Value) (A B : List Sh) (s : Sh) (c : ClD) (n : Int) (hS : StAt w c.st v (A ++ s :: B)) (hC : ClAt w c) (hd : c.held.length = (A ++ s :: B).length) (hA : A.length ≤ 1000) (ho : ∀ k, c.all k → ¬ SF (A ++ s :: B) k)
    (h1 : -1000000 ≤ n ∧ n ≤ 1000000) (h2 : -1000000 ≤ s.held ∧ s.held ≤ 1000000) (h3 : -1000000 ≤ c.held.getD A.length 0 ∧ c.held.getD A.length 0 ≤ 1000000) :
    Calls Tryz.prog 66 #[ptrv c.b, i64 A.length, i64 n] w fun e w' => (∃ v, e = .returned v) ∧ HoldP w v A B s c n w' := by
  have hm : s ∈ A ++ s :: B := by simp
  have S := hS.at_ s hm
  obtain ⟨gs, caps, es, es1, es2, es3⟩ := hS.shelf A.length (by simp)
  have hsb : (A ++ s :: B)[A.length]'(by simp) = s := by simp
  rw [hsb] at es3
  have hAl : A.length < (A ++ s :: B).length := by simp
  have b0 : w.cell? ⟨c.st, 0, none⟩ = some v := hS.blk.cell 0
  have c0 := hC.c0
  have c1 := hC.c1
  have s4 := S.c4
  obtain ⟨g, rest, eh, hbk, hmx⟩ := hC.rh.blk_at (by rw [List.length_map]; omega)
  rw [List.length_map] at eh hmx
  have hcell : w.cell? ⟨g, A.length, none⟩ = some (i64 (c.held.getD A.length 0)) := by
    rw [hbk.cell, List.getElem?_append_left (by rw [List.length_map]; omega), List.getElem?_map, List.getD_eq_getElem?_getD, List.getElem?_eq_getElem (by omega)]; rfl
  have hlt : A.length < c.held.length := by omega
  have hown : c.hv.ownBlock = some g := by rw [eh]; rfl
  -- what the two stores leave
  have hsc : ∀ k, c.all k → k ≠ s.b := fun k hk e => ho k hk ⟨s, hm, .inl e⟩
  have FIN : Hid (∀ w1 w2, Blk w1 s.b 95 [.string s.t.name, i64 s.t.rows, s.t.cv, ptrv s.p, i64 (s.held + (n - c.held.getD A.length 0))] → Wrote s.b w w1 →
      Blk w2 g 3 ((c.held.map i64 ++ rest).take A.length ++ i64 n :: (c.held.map i64 ++ rest).drop (A.length + 1)) → Wrote g w1 w2 → HoldP w v A B s c n w2) := fun w1 w2 hb1 hw1 hb2 hw2 => by
    have hgs : g ≠ s.b := hsc g (.inr (.inl hown))
    have hf1 : Fr (fun k => k = s.b) w w1 := (Fr.refl _ w).wrote hw1 (.inl rfl)
    have hf : Fr (fun k => k = s.b ∨ c.hv.ownBlock = some k) w w2 := (hf1.mono (fun k hk _ => .inl hk)).wrote hw2 (.inl (.inr hown))
    have hM : ∀ k, (k = s.b ∨ c.hv.ownBlock = some k) → MutB w k := fun k hk => by
      rcases hk with rfl | hk
      · exact S.mutb _ (.inl rfl)
      · exact hC.mutb _ (.inr (.inl hk))
    have hS2 : ShAt w2 { s with held := s.held + (n - c.held.getD A.length 0) } := by
      refine ⟨hb1.same (hw2.block _ fun e => hgs e.symm), S.tree.same fun k hk => (hf.block k (S.tree.lt k hk) fun h => ?_), owns_fr' S.cols notC hf (fun k hk _ => hM k hk), fun t ht => (S.rows t ht).fr hf (fun k hk _ => hM k hk)⟩
      rcases h with rfl | h
      · exact S.off hk
      · exact ho k (.inr (.inl h)) ⟨s, hm, .inr hk⟩
    refine ⟨?_, ?_, hf⟩
    · -- the store: its other shelves
      have hd' := List.pairwise_append.1 hS.dj
      have hd2 := List.pairwise_cons.1 hd'.2.1
      have off : ∀ x ∈ A ++ B, ∀ k, x.all k → ¬ (k = s.b ∨ c.hv.ownBlock = some k) := fun x hx k hk h => by
        have hxs : ¬ s.all k := by
          rcases List.mem_append.1 hx with h | h
          · exact hd'.2.2 x h s (by simp) k hk
          · exact fun hk' => hd2.1 x h k hk' hk
        rcases h with h | h
        · exact hxs (.inl h)
        · refine ho k (.inr (.inl h)) ⟨x, ?_, hk⟩
          rcases List.mem_append.1 hx with h | h <;> simp [h]
      refine ⟨hS.blk.same (hf.block _ hS.blk.lt fun h => blk_off hS.blk notSt (hM _ h)), ?_, fun x hx => ?_, ?_⟩
      · have := hS.row.fr' notS hf (fun k hk _ => hM k hk)
        simpa using this
      · simp only [List.mem_append, List.mem_cons] at hx
        rcases hx with hx | rfl | hx
        · exact (hS.at_ x (by simp [hx])).fr hf (fun k hk _ => hM k hk) (off x (by simp [hx]))
        · exact hS2
        · exact (hS.at_ x (by simp [hx])).fr hf (fun k hk _ => hM k hk) (off x (by simp [hx]))
      · exact List.pairwise_append.2 ⟨hd'.1, List.pairwise_cons.2 ⟨hd2.1, hd2.2⟩, fun x hx y hy => by
          rcases List.mem_cons.1 hy with rfl | hy
          · exact hd'.2.2 x hx s (by simp)
          · exact hd'.2.2 x hx y (by simp [hy])⟩
    · have nb := hC.nb
      have nm := hC.nm
      have hkeep : ∀ k, c.all k → c.hv.ownBlock ≠ some k → w2.heap[k]? = w.heap[k]? := fun k hk h => hf.block k (hC.lt k hk) fun h' => by
        rcases h' with h' | h'
        · exact hsc k hk h'
        · exact h h'
      refine ⟨hC.blk.same (hkeep _ (.inl rfl) nb.1), ?_, hC.rf.same fun k hk => hkeep k (.inr (.inr (.inl hk))) (fun h => hC.apart k h hk), hC.map.same (hkeep _ (.inr (.inr (.inr rfl))) nm.1), hC.ok, fun x hx => (hC.rows x hx).imp id fun hv => hv.fr hf (fun k hk _ => hM k hk), hC.apart⟩
      have := Row.set_at hb2 (by rw [List.length_map]; exact hlt) (by rw [List.length_map]; exact hmx)
      rw [List.length_map, ← eh] at this
      simpa [List.map_set] using this
  have HBS := Lib.hid S.blk
  have HBG := Lib.hid hbk
  have hgs : g ≠ s.b := hsc g (.inr (.inl hown))
  have HL : Hid (A.length < (c.held.map i64 ++ rest).length) := by show _ < _; simp; omega
  rw [eh] at c1
  rw [es] at b0
  have K : Hid (∀ w1, Wrote s.b w w1 → w1.cell? ⟨c.b, 1, none⟩ = some (.slice (some ⟨g, 0, none⟩) c.held.length (c.held.length + rest.length)) ∧ Blk w1 g 3 (c.held.map i64 ++ rest)) := fun w1 hw => by
    refine ⟨?_, HBG.out.same (hw.block g hgs)⟩
    have := (hC.blk.same (hw.block _ (hsc _ (.inl rfl)))).cell 1
    rw [eh] at this
    exact this
  have w1' : IntKind.i64.wrap (n - c.held.getD A.length 0) = n - c.held.getD A.length 0 := by rw [IntKind.wrap_i64]; omega
  have w2' : IntKind.i64.wrap (s.held + (n - c.held.getD A.length 0)) = s.held + (n - c.held.getD A.length 0) := by rw [IntKind.wrap_i64]; omega
  have W1 := Lib.hid w1'
  have W2 := Lib.hid w2'
  clear w1' w2'
  have hcap : c.held.length ≤ c.held.length + rest.length := by omega
  clear hm S hsb hC hS eh es hbk hmx hsc hown hd hgs ho
  generalize hx : c.held.getD A.length 0 = x at *
  have HX := Lib.hid hx
  generalize A.length = i at *
  generalize (A ++ s :: B).length = m at *
  generalize c.held.length = ln at *
  clear hx
  go_enter Tryz.func66, Tryz.ntmps66
  go_wp2_with fail
  go_still_tail 25, (by kernel_rfl)
  go_wp2_with (refine wpList_store rfl 3 _ _ rfl s.b 4 95 _ [_] _ rfl rfl (show Blk w.drew _ _ _ from HBS.out) rfl sizeint7 (by simp) (one1 rfl) ?_)
  intro wa hba hwa
  have HB1 : Hid (Blk wa s.b 95 [.string s.t.name, i64 s.t.rows, s.t.cv, ptrv s.p, i64 (s.held + (n - x))]) := by
    have hq : Blk wa s.b 95 [.string s.t.name, i64 s.t.rows, s.t.cv, ptrv s.p, i64 (IntKind.i64.wrap (s.held + IntKind.i64.wrap (n - x)))] := hba
    rw [W1.out, W2.out] at hq
    exact hq
  have hwa' : Wrote s.b w wa := ⟨hwa.os, hwa.tape, hwa.output, hwa.size, hwa.block⟩
  have HW1 := Lib.hid hwa'
  obtain ⟨d1, d2⟩ := K.out wa hwa'
  have D2 := Lib.hid d2
  clear hba hwa hwa' d2 K
  go_wp2_with (refine wpList_store rfl 3 _ _ rfl g i 3 _ [i64 n] _ rfl rfl D2.out rfl sizeint7 HL.out (one1 rfl) ?_)
  intro wb hbb hwb
  go_wp2
  go_end0
  exact ⟨⟨_, rfl⟩, FIN.out wa wb HB1.out HW1.out hbb hwb⟩

/-! ### begin -/
/-- what begin leaves: nothing is touched, what is held is what Back comes back to -/
structure BegP (w : World) (c : ClD) (w' : World) (c' : ClD) : Prop where
  cl : ClAt w' c'
  b : c'.b = c.b
  st : c'.st = c.st
  hv : c'.hv = c.hv
  m : c'.m = c.m
  held : c'.held = c.held
  first : c'.first = c.held
  tch : c'.tch = []
  fr : Fr (fun k => k = c.b ∨ k = c.m) w w'
  new : ∀ k, c'.all k → c.all k ∨ w.heap.size ≤ k

set_option maxRecDepth 100000 in
set_option maxHeartbeats 1000000 in
theorem begin_any (w : World) (c : ClD) (h : ClAt w c) (hl : c.held.length ≤ 1000) :
    Calls Tryz.prog 67 #[ptrv c.b] w fun e w' => (∃ v, e = .returned v) ∧ ∃ c', BegP w c w' c' := by
  have c3 := h.c3
  have c1 := h.c1
  obtain ⟨w1, hr1, hm1, hw1⟩ := run_clear_map h.map
  have nb := h.nb
  have nm := h.nm
  have f1 : Fr (fun k => k = c.m) w w1 := (Fr.refl _ w).wrote hw1 (.inl rfl)
  have hM1 : ∀ k, (k = c.b ∨ k = c.m) → MutB w k := fun k hk => by
    rcases hk with rfl | rfl
    · exact h.mutb _ (.inl rfl)
    · exact h.mutb _ (.inr (.inr (.inr rfl)))
  have hb1 : Blk w1 c.b 122 [ptrv c.st, c.hv, c.fv, .map (some c.m)] := h.blk.same (hw1.block _ fun e => nb.2.2 e.symm)
  have hh1 : Row w1 3 c.hv (c.held.map i64) := h.rh.same fun k hk => hw1.block k fun e => nm.1 (by rw [← e]; exact hk)
  have CC : Hid (Calls Tryz.prog 94 #[c.hv] w1 fun e w' => ∃ v', e = .returned v' ∧ Row w' 3 v' (c.held.map i64) ∧ (∀ k, v'.ownBlock = some k → w1.heap.size ≤ k) ∧ Rb w1 w') := clone_any_I w1 _ _ hh1.sl (by rw [List.length_map]; omega) i64_one
  obtain ⟨ao, cap, eh, e1, e2⟩ := h.hform
  have SEE : Hid (∀ w2, Rb w1 w2 → Blk w2 c.b 122 [ptrv c.st, c.hv, c.fv, .map (some c.m)]) := fun w2 hr => hb1.rb hr
  have FIN : Hid (∀ v' w2 w3, Row w2 3 v' (c.held.map i64) → (∀ k, v'.ownBlock = some k → w1.heap.size ≤ k) → Rb w1 w2 → Blk w3 c.b 122 [ptrv c.st, c.hv, v', .map (some c.m)] → Wrote c.b w2 w3 → ∃ c', BegP w c w3 c') := fun v' w2 w3 hr hn hb hb3 hw3 => by
    have hsz := hw1.size
    have hf : Fr (fun k => k = c.b ∨ k = c.m) w w3 := ((f1.mono fun k hk _ => .inr hk).then_rb hb).wrote hw3 (.inl (.inl rfl))
    have hvb : v'.ownBlock ≠ some c.b := fun e => by have := hn _ e; have := h.blk.lt; omega
    refine ⟨{ c with fv := v', first := c.held, tch := [] }, ⟨hb3, (hh1.rb hb).same fun k hk => hw3.block k (fun e => nb.1 (by rw [← e]; exact hk)), hr.same fun k hk => hw3.block k (fun e => hvb (by rw [← e]; exact hk)), (hm1.rb hb).same (hw3.block _ nb.2.2), (fun x hx => by cases hx), (fun x hx => by cases hx), fun k hk hk' => ?_⟩, rfl, rfl, rfl, rfl, rfl, rfl, rfl, hf, fun k hk => ?_⟩
    · have := hn k hk'; have := h.rh.lt k hk; omega
    · rcases hk with hk | hk | hk | hk
      · exact .inl (.inl hk)
      · exact .inl (.inr (.inl hk))
      · have := hn k hk; exact .inr (by omega)
      · exact .inl (.inr (.inr (.inr hk)))
  have d1 : w1.cell? ⟨c.b, 1, none⟩ = some c.hv := hb1.cell 1
  rw [eh] at c1 d1 CC
  have EH := Lib.hid eh
  clear h hl nb nm f1 hM1 hb1 hh1 hm1 hw1
  go_enter Tryz.func67, Tryz.ntmps67
  go_wp2_with (first | (at_builtin; refine wpList_run_clear rfl rfl rfl (hr1 _) ?_) | (go_at_call 94; refine CC.out.mono ?_))
  rintro e w2 ⟨v', rfl, h1, h2, h3⟩
  obtain ⟨ao2, cap2, e2', _, _⟩ := h1.form
  subst e2'
  have HB2 := Lib.hid (SEE.out w2 h3)
  have HH : Hid (Row w2 3 _ (c.held.map i64) ∧ _ ∧ Rb w1 w2) := ⟨h1, h2, h3⟩
  clear h1 h2 h3 SEE
  go_wp2_with (refine wpList_store rfl 43 _ _ rfl c.b 2 122 _ [_] _ rfl rfl HB2.out rfl sizeints (by simp) (one1 rfl) ?_)
  intro w3 hb3 hw3
  go_wp2
  go_end0
  have hb3' : Blk w3 c.b 122 [ptrv c.st, c.hv, .slice ao2 (c.held.map i64).length cap2, .map (some c.m)] := by rw [EH.out, List.length_map]; exact hb3
  exact ⟨⟨_, rfl⟩, FIN.out _ w2 w3 HH.out.1 HH.out.2.1 HH.out.2.2 hb3' hw3⟩
end Go.Proofs.YtjfpeklfgnajoaaGreat.L6

namespace Go.Proofs.YtjfpeklfgnajoaaGreat.L6
open Go.ChangeShapes Go.WideShapes Go.ChangeAt Go.RowKit By Reg Val
set_option linter.unusedVariables false
set_option linter.unusedSimpArgs false

/-- a store and a claim on it -/
structure Duo (w : World) (v : Value) (sh : List Sh) (c : ClD) : Prop where
  st : StAt w c.st v sh
  cl : ClAt w c
  ap : ∀ k, c.all k → ¬ SF sh k
  len : c.held.length = sh.length
def DF (sh : List Sh) (c : ClD) (k : Nat) : Prop := SF sh k ∨ c.all k
namespace Duo
variable {w w' : World} {v : Value} {sh : List Sh} {c : ClD}
theorem lt (h : Duo w v sh c) : ∀ k, DF sh c k → k < w.heap.size := fun k hk => hk.elim (h.st.lt k) (h.cl.lt k)
theorem mutb (h : Duo w v sh c) : ∀ k, DF sh c k → MutB w k := fun k hk => hk.elim (h.st.mutb k) (h.cl.mutb k)
theorem rb (h : Duo w v sh c) (hb : Rb w w') : Duo w' v sh c := ⟨h.st.rb hb, h.cl.rb hb, h.ap, h.len⟩
end Duo
/-- what an operation leaves -/
structure OpP (w : World) (v : Value) (sh : List Sh) (c : ClD) (w' : World) (sh' : List Sh) (c' : ClD) : Prop where
  duo : Duo w' v sh' c'
  b : c'.b = c.b
  st : c'.st = c.st
  fr : Fr (DF sh c) w w'
  new : ∀ k, DF sh' c' k → DF sh c k ∨ w.heap.size ≤ k
namespace OpP
variable {w w1 w2 : World} {v : Value} {sh sh1 sh2 : List Sh} {c c1 c2 : ClD}
theorem of_rb (h : Duo w v sh c) (hb : Rb w w1) : OpP w v sh c w1 sh c := ⟨h.rb hb, rfl, rfl, Fr.of_rb hb, fun k hk => .inl hk⟩
theorem trans (h : OpP w v sh c w1 sh1 c1) (k : OpP w1 v sh1 c1 w2 sh2 c2) : OpP w v sh c w2 sh2 c2 :=
  ⟨k.duo, k.b.trans h.b, k.st.trans h.st, h.fr.trans k.fr h.new, fun i hi => by
    rcases k.new i hi with h' | h'
    · exact h.new i h'
    · have := h.fr.size; exact .inr (by omega)⟩
theorem rb (hb : Rb w w1) (k : OpP w1 v sh1 c1 w2 sh2 c2) : OpP w v sh1 c1 w2 sh2 c2 :=
  ⟨k.duo, k.b, k.st, (Fr.of_rb hb).trans k.fr fun _ h => .inl h, fun i hi => by
    rcases k.new i hi with h' | h'
    · exact .inl h'
    · have := hb.size; exact .inr (by omega)⟩
end OpP

/-- one shelf turned -/
theorem OpP.shelf {w w' : World} {v : Value} {A B : List Sh} {s s' : Sh} {c : ClD} (h : Duo w v (A ++ s :: B) c) (hb : s'.b = s.b) (hs : ShAt w' s') (hf : Fr s.all w w') (hn : ∀ k, s'.all k → s.all k ∨ w.heap.size ≤ k) : OpP w v (A ++ s :: B) c w' (A ++ s' :: B) c := by
  have hst := h.st.up hb hs hf hn
  have hm : ∀ k, s.all k → SF (A ++ s :: B) k := fun k hk => ⟨s, by simp, hk⟩
  have hsf : ∀ k, SF (A ++ s' :: B) k → SF (A ++ s :: B) k ∨ w.heap.size ≤ k := fun k ⟨x, hx, hk⟩ => by
    simp only [List.mem_append, List.mem_cons] at hx
    rcases hx with hx | rfl | hx
    · exact .inl ⟨x, by simp [hx], hk⟩
    · rcases hn k hk with h | h
      · exact .inl (hm k h)
      · exact .inr h
    · exact .inl ⟨x, by simp [hx], hk⟩
  refine ⟨⟨hst, h.cl.fr hf (fun k hk _ => h.st.mutb k (hm k hk)) fun k hk hk' => h.ap k hk (hm k hk'), fun k hk hk' => ?_, by rw [h.len]; simp⟩, rfl, rfl, hf.mono fun k hk _ => .inl (hm k hk), fun k hk => ?_⟩
  · rcases hsf k hk' with h' | h'
    · exact h.ap k hk h'
    · have := h.cl.lt k hk; omega
  · rcases hk with hk | hk
    · rcases hsf k hk with h | h
      · exact .inl (.inl h)
      · exact .inr h
    · exact .inl (.inr hk)
/-- the claim's map turned -/
theorem OpP.map {w w' : World} {v : Value} {sh : List Sh} {c : ClD} {l : List (Spot × SV)} (h : Duo w v sh c) (hm : MapAt w' c.m l) (hw : Wrote c.m w w') (hok : ∀ x ∈ l, SpOk x.1) (hr : ∀ x ∈ l, (x.2 = sv0 ∨ VIn w x.2)) : OpP w v sh c w' sh { c with tch := l } := by
  have hf : Fr (fun k => k = c.m) w w' := (Fr.refl _ w).wrote hw (.inl rfl)
  have hM : ∀ k, k = c.m → k < w.heap.size → MutB w k := fun k hk _ => by subst hk; exact h.cl.map.mutb
  have nb := h.cl.nb
  have nm := h.cl.nm
  refine ⟨⟨h.st.fr hf hM fun k hk e => h.ap k (.inr (.inr (.inr e))) hk, ⟨h.cl.blk.same (hw.block _ fun e => nb.2.2 e.symm), h.cl.rh.same fun k hk => hw.block k fun e => nm.1 (by rw [← e]; exact hk), h.cl.rf.same fun k hk => hw.block k fun e => nm.2 (by rw [← e]; exact hk), hm, hok, fun x hx => (hr x hx).imp id fun hv => hv.fr hf hM, h.cl.apart⟩, h.ap, h.len⟩, rfl, rfl, hf.mono fun k hk _ => .inr (.inr (.inr (.inr hk))), fun k hk => .inl hk⟩

theorem putM_mem {p : Spot} {y : SV} : ∀ {l : List (Spot × SV)} {x : Spot × SV}, x ∈ putM p y l → x ∈ l ∨ x = (p, y)
  | [], x, h => by simp [putM] at h; exact .inr h
  | u :: l, x, h => by
    rw [putM] at h
    split at h
    · rcases List.mem_cons.1 h with rfl | h
      · exact .inr rfl
      · exact .inl (by simp [h])
    · rcases List.mem_cons.1 h with rfl | h
      · exact .inl (by simp)
      · rcases putM_mem h with h | h
        · exact .inl (by simp [h])
        · exact .inr h

/-- what stands of a spot that is touched -/
def tchM (p : Spot) (y : SV) (l : List (Spot × SV)) : List (Spot × SV) := if (getM p l).isSome then l else putM p y l

set_option maxRecDepth 100000 in
set_option maxHeartbeats 1000000 in
theorem touch_any (w : World) (v : Value) (A B : List Sh) (s : Sh) (c : ClD) (k : Int) (y : SV) (h : Duo w v (A ++ s :: B) c) (hk : I64 k) (hA : A.length ≤ 1000) (hL : s.L.length ≤ 999) (hy : y.ao.isNone = false → VIn w y) :
    Calls Tryz.prog 72 #[ptrv c.b, spV (A.length, k), sv y] w fun e w' => (∃ v, e = .returned v) ∧ ∃ s', s'.b = s.b ∧ s'.t = s.t ∧ s'.held = s.held ∧ s'.L = layL k y s.L ∧
      OpP w v (A ++ s :: B) c w' (A ++ s' :: B) { c with tch := tchM (A.length, k) ((getL k s.L).getD sv0) c.tch } := by
  obtain ⟨W, hW⟩ : ∃ W, W = w.alloc (.cells #[i64 A.length, i64 k] 111) := ⟨_, rfl⟩
  have rW : Rb w W := by rw [hW]; exact (Below.refl _ w).alloc (Nat.le_refl _) _
  have bW : Blk W w.heap.size 111 [i64 A.length, i64 k] := by rw [hW]; exact Blk.new w _ [i64 A.length, i64 k]
  have D := h.rb rW
  have hm : s ∈ A ++ s :: B := by simp
  have S := D.st.at_ s hm
  have hi : A.length < (A ++ s :: B).length := by simp
  obtain ⟨gs, caps, es, es1, es2, es3⟩ := D.st.shelf A.length hi
  have hsb : (A ++ s :: B)[A.length] = s := by simp
  rw [hsb] at es3
  have hp : SpOk (A.length, k) := ⟨⟨by show (-9223372036854775808 : Int) ≤ _; omega, by show _ ≤ (9223372036854775807 : Int); omega⟩, hk⟩
  have b0 : W.cell? ⟨c.st, 0, none⟩ = some v := D.st.blk.cell 0
  have x0 : W.cell? ⟨w.heap.size, 0, none⟩ = some (i64 A.length) := bW.cell 0
  have x1 : W.cell? ⟨w.heap.size, 1, none⟩ = some (i64 k) := bW.cell 1
  have c0 := D.cl.c0
  have c3 := D.cl.c3
  have s3 := S.c3
  rw [es] at b0
  have LK : ∀ W', Rb W W' → (Instr.lookup 120 (.map (some c.m)) (spV (A.length, k)) true).run Tryz.prog W' = .ok (.tuple #[sv ((getM (A.length, k) c.tch).getD sv0), .bool (getM (A.length, k) c.tch).isSome]) W' := fun W' hb =>
    run_lookup_map (D.rb hb).cl.map D.cl.ok _ hp true
  have LKH := Lib.hid LK
  have HD := Lib.hid D
  have HWW := Lib.hid hW
  have HR := Lib.hid rW
  have HBW := Lib.hid bW
  have HSS := Lib.hid S
  have hlen : A.length < (A ++ s :: B).length := hi
  clear LK D rW bW S hm hi es hsb h
  generalize hln : (A ++ s :: B).length = ln at *
  have HLN := Lib.hid hln
  generalize hix : A.length = ix at *
  have HIX := Lib.hid hix
  obtain ⟨bx, hbx⟩ : ∃ bx, bx = w.heap.size := ⟨_, rfl⟩
  rw [← hbx] at x0 x1 HBW
  have HBX := Lib.hid hbx
  generalize hg1 : getM (↑ix, k) c.tch = g1 at *
  have HG1 := Lib.hid hg1
  clear hln hix hg1
  go_enter Tryz.func72, Tryz.ntmps72
  go_wp2_with (rw [← hW, ← hbx])
  clear hW hbx
  have SEE : Hid (∀ W', Rb W W' → W'.cell? ⟨c.b, 3, none⟩ = some (.map (some c.m)) ∧ W'.cell? ⟨s.b, 3, none⟩ = some (ptrv s.p) ∧ W'.cell? ⟨bx, 0, none⟩ = some (i64 ix) ∧ W'.cell? ⟨bx, 1, none⟩ = some (i64 k)) := fun W' hr =>
    ⟨(HD.out.rb hr).cl.c3, (HSS.out.rb hr).c3, (HBW.out.rb hr).cell 0, (HBW.out.rb hr).cell 1⟩
  go_still (by kernel_rfl)
  obtain ⟨W1, hW1⟩ : ∃ W1, W1 = W.drew := ⟨_, rfl⟩
  have rW1 : Rb W W1 := by rw [hW1]; exact Rb.drew W
  change Exit.then _ _ _ _ W.drew
  rw [← hW1]
  have HR1 := Lib.hid rW1
  clear hW1 c0 c3 s3 es3 x0 x1 b0 rW1
  obtain ⟨c3, s3, x0, x1⟩ := SEE.out W1 HR1.out
  have lk := LKH.out W1.drew (Rb.trans _ _ _ HR1.out (Rb.drew _))
  go_wp2_with fail
  go_still (by kernel_rfl)
  obtain ⟨W2, hW2⟩ : ∃ W2, W2 = W1.drew := ⟨_, rfl⟩
  have rW2 : Rb W W2 := by rw [hW2]; exact Rb.trans _ _ _ HR1.out (Rb.drew _)
  change Exit.then _ _ _ _ W1.drew
  rw [← hW2]
  have HR2 := Lib.hid rW2
  clear hW2 c3 s3 x0 x1 lk rW2
  obtain ⟨c3, s3, x0, x1⟩ := SEE.out W2 HR2.out
  have FIN : Hid (∀ (w3 w' : World) (l : List (Spot × SV)) (s' : Sh), OpP w v (A ++ s :: B) c w3 (A ++ s :: B) { c with tch := l } → l = tchM (↑ix, k) ((getL k s.L).getD sv0) c.tch → Laid7 w3 s k y w' s' → (∃ u, Ending.returned u = Ending.returned u) ∧ ∃ s', s'.b = s.b ∧ s'.t = s.t ∧ s'.held = s.held ∧ s'.L = layL k y s.L ∧
      OpP w v (A ++ s :: B) c w' (A ++ s' :: B) { c with tch := tchM (↑ix, k) ((getL k s.L).getD sv0) c.tch }) := fun w3 w' l s' hO hl hL' => by
    refine ⟨⟨undef, rfl⟩, s', hL'.b, hL'.t, hL'.held, hL'.L, ?_⟩
    rw [← hl]
    exact hO.trans (OpP.shelf hO.duo hL'.b hL'.at_ hL'.frA hL'.newA)
  cases g1 with
  | some y0 =>
    have LAY := Lib.hid (lay_any W2 s k y (HSS.out.rb HR2.out) (fun e => ((hy e).rb HR.out).rb HR2.out) (by omega))
    have HT : Hid (c.tch = tchM (↑ix, k) ((getL k s.L).getD sv0) c.tch) := by
      show c.tch = _
      unfold tchM
      rw [HG1.out]; rfl
    clear LKH
    dsimp only [Option.getD, Option.isSome]
    go_wp2_with (go_at_call 43; refine LAY.out.mono ?_)
    first | (rintro e w' u rfl s' hs') | (rintro e w' ⟨⟨u, rfl⟩, s', hs'⟩)
    have HL := Lib.hid hs'
    clear hs'
    go_wp2
    go_end0
    obtain ⟨_, h2⟩ := FIN.out W2 w' c.tch s' (OpP.of_rb (h := (by have := HD.out; exact this : Duo W v (A ++ s :: B) c)) HR2.out |> fun q => OpP.rb HR.out q) HT.out HL.out
    exact ⟨⟨_, rfl⟩, h2⟩
  | none =>
    obtain ⟨g, hg⟩ : ∃ g, g = (getL k s.L).getD sv0 := ⟨_, rfl⟩
    have CG : Hid (∀ w', Rb W w' → Calls Tryz.prog 45 #[ptrv s.p, i64 k] w' fun e w'' => e = .returned (.tuple #[sv g, .bool (getL k s.L).isSome]) ∧ Rb w' w'') := fun w' hr => by
      rw [hg]; exact tget k w' _ _ _ (HSS.out.rb hr).tree
    have STORE : Hid (∀ w3, Rb W w3 → ∃ w4, (Instr.mapUpdate 120 (.map (some c.m)) (spV (↑ix, k)) (sv g)).run Tryz.prog w3 = .ok () w4 ∧ MapAt w4 c.m (putM (↑ix, k) g c.tch) ∧ Wrote c.m w3 w4 ∧
        (w4.cell? ⟨c.b, 3, none⟩ = some (.map (some c.m)) ∧ w4.cell? ⟨s.b, 3, none⟩ = some (ptrv s.p) ∧ w4.cell? ⟨bx, 0, none⟩ = some (i64 ix) ∧ w4.cell? ⟨bx, 1, none⟩ = some (i64 k))) := fun w3 hr => by
      have D3 := HD.out.rb hr
      obtain ⟨w4, h1, h2, h3⟩ := run_store_map D3.cl.map HD.out.cl.ok _ hp g
      have hbm : bx ≠ c.m := fun e => by
        obtain ⟨es, cl, hb, _⟩ := HD.out.cl.map
        have := HBW.out
        unfold Blk at this
        rw [e, hb] at this
        cases this
      refine ⟨w4, h1, h2, h3, (D3.cl.blk.same (h3.block _ fun e => D3.cl.nb.2.2 e.symm)).cell 3, ((HSS.out.rb hr).blk.same (h3.block _ fun e => ?_)).cell 3, ((HBW.out.rb hr).same (h3.block _ hbm)).cell 0, ((HBW.out.rb hr).same (h3.block _ hbm)).cell 1⟩
      exact HD.out.ap c.m (.inr (.inr (.inr rfl))) ⟨s, by simp, .inl e.symm⟩
    have HT : Hid (putM (↑ix, k) g c.tch = tchM (↑ix, k) ((getL k s.L).getD sv0) c.tch) := by
      show _ = _
      unfold tchM
      rw [HG1.out, ← hg]; rfl
    have HV : Hid (∀ w3, Rb W w3 → g = sv0 ∨ VIn w3 g) := fun w3 hr => by
      rw [hg]
      cases hq : getL k s.L with
      | none => exact .inl rfl
      | some z => exact .inr ((HSS.out.rb hr).rows _ (getL_mem hq))
    obtain ⟨ok, hok⟩ : ∃ ok, ok = (getL k s.L).isSome := ⟨_, rfl⟩
    rw [← hok] at CG
    have rWd : Rb W W2.drew := Rb.trans _ _ _ HR2.out (Rb.drew _)
    clear LKH hg hok
    dsimp only [Option.getD, Option.isSome]
    go_wp2_with fail
    have mixed : Tryz.prog.follows Departure.mixedOrders = true := by kernel_rfl
    go_region_held3 (fun w' => w'.cell? ⟨c.b, 3, none⟩ = some (.map (some c.m)) ∧ w'.cell? ⟨s.b, 3, none⟩ = some (ptrv s.p) ∧ w'.cell? ⟨bx, 0, none⟩ = some (i64 ix) ∧ w'.cell? ⟨bx, 1, none⟩ = some (i64 k)) (first | exact ⟨c3, s3, x0, x1⟩ | exact ⟨y3, z3, u0, u1⟩ | exact ⟨p3, q3, v0, v1⟩) (first | (go_at_call 45; refine (CG.out _ rWd).mono ?_; rintro e w3 ⟨rfl, hr3⟩; have hr4 := Rb.trans _ _ _ rWd hr3; obtain ⟨y3, z3, u0, u1⟩ := SEE.out w3 hr4; obtain ⟨w4, hst, hm4, hw4, p3, q3, v0, v1⟩ := STORE.out w3 hr4) | (fail))
    all_goals
      have HQ : Hid (Rb W w3 ∧ MapAt w4 c.m (putM (↑ix, k) g c.tch) ∧ Wrote c.m w3 w4) := ⟨hr4, hm4, hw4⟩
      have OP0 : OpP w3 v (A ++ s :: B) c w4 (A ++ s :: B) { c with tch := putM (↑ix, k) g c.tch } := OpP.map (HD.out.rb hr4) hm4 hw4 (fun x hx => by
        rcases putM_mem hx with h | rfl
        · exact HD.out.cl.ok x h
        · exact hp) (fun x hx => by
        rcases putM_mem hx with h | rfl
        · exact (HD.out.rb hr4).cl.rows x h
        · exact HV.out w3 hr4)
      have OP := Lib.hid OP0
      have LAY := Lib.hid (lay_any w4 s k y (OP0.duo.st.at_ s (by simp)) (fun e => (((hy e).rb HR.out).rb hr4).fr OP0.fr fun q hq _ => (HD.out.rb hr4).mutb q hq) (by omega))
      clear OP0 hm4 hw4 hst y3 z3 u0 u1 c3 s3 x0 x1 STORE CG
      go_wp2_with (go_at_call 43; refine LAY.out.mono ?_)
      first | (rintro e w' u rfl s' hs') | (rintro e w' ⟨⟨u, rfl⟩, s', hs'⟩)
      have HL := Lib.hid hs'
      clear hs'
      go_wp2
      go_end0
      obtain ⟨_, h2⟩ := FIN.out w4 w' _ s' (OpP.rb HR.out (OpP.rb HQ.out.1 OP.out)) HT.out HL.out
      exact ⟨⟨_, rfl⟩, h2⟩
end Go.Proofs.YtjfpeklfgnajoaaGreat.L6

namespace Go.Proofs.YtjfpeklfgnajoaaGreat.L6
open Go.ChangeShapes Go.WideShapes Go.ChangeAt Go.RowKit By Reg Val
set_option linter.unusedVariables false
set_option linter.unusedSimpArgs false

theorem VRow.blk {w : World} {B : Nat} {v : Value} {l : List ValD} (h : VRow w B v l) (h0 : 0 < l.length) : ∃ g cap cs, v = .slice (some ⟨g, 0, none⟩) l.length cap ∧ Blk w g 60 cs ∧ B ≤ g ∧ l.length ≤ cap ∧ cap ≤ maxLen ∧ cs.length = cap * 3 ∧ cs.take (l.length * 3) = flat3 l := by
  rcases h.2 with ⟨h1, h2⟩ | ⟨g, cap, cur, h1, h2, h3, h4, h5, h6, h7⟩
  · omega
  · exact ⟨g, cap, cur.toList, h1, by unfold Blk; simpa using h3, h2, h4, h5, by simpa using h6, h7⟩
theorem VRow.mk' {w : World} {B g cap : Nat} {cs : List Value} {l : List ValD} (hb : Blk w g 60 cs) (hB : B ≤ g) (h1 : l.length ≤ cap) (h2 : cap ≤ maxLen) (h3 : cs.length = cap * 3) (h4 : cs.take (l.length * 3) = flat3 l) : VRow w B (.slice (some ⟨g, 0, none⟩) l.length cap) l :=
  ⟨by rw [flat3_len], .inr ⟨g, cap, cs.toArray, rfl, hB, hb, h1, h2, by simpa using h3, by simpa using h4⟩⟩
theorem flat3_set {l : List ValD} {cs : List Value} {j : Nat} (x : ValD) (hj : j < l.length) (h : cs.take (l.length * 3) = flat3 l) : (cs.take (j * 3) ++ cells3 x ++ cs.drop (j * 3 + 3)).take (l.length * 3) = flat3 (l.set j x) := by
  obtain ⟨A, q, C, e, hA⟩ : ∃ A q C, l = A ++ q :: C ∧ A.length = j := ⟨l.take j, l[j], l.drop (j + 1), by simp, by simp; omega⟩
  subst e; subst hA
  have hl : (A ++ q :: C).length * 3 = A.length * 3 + (3 + C.length * 3) := by simp; omega
  rw [hl] at h ⊢
  have e1 : cs = (flat3 A ++ (cells3 q ++ flat3 C)) ++ cs.drop (A.length * 3 + (3 + C.length * 3)) := by
    have := List.take_append_drop (A.length * 3 + (3 + C.length * 3)) cs
    rw [h, flat3_append] at this
    exact this.symm
  generalize cs.drop (A.length * 3 + (3 + C.length * 3)) = R at e1
  have la := flat3_len A
  have lc := flat3_len C
  have e2 : (A ++ q :: C).set A.length x = A ++ x :: C := by simp
  rw [e2, flat3_append]
  have e3 : flat3 (x :: C) = cells3 x ++ flat3 C := rfl
  have t1 : cs.take (A.length * 3) = flat3 A := by rw [e1, List.append_assoc, ← la, List.take_left']; rfl
  have t2 : cs.drop (A.length * 3 + 3) = flat3 C ++ R := by
    rw [e1, show A.length * 3 + 3 = (flat3 A ++ cells3 q).length by simp [la], show (flat3 A ++ (cells3 q ++ flat3 C)) ++ R = (flat3 A ++ cells3 q) ++ (flat3 C ++ R) by simp, List.drop_left']
    rfl
  rw [t1, t2, e3, show (flat3 A ++ cells3 x ++ (flat3 C ++ R)) = (flat3 A ++ (cells3 x ++ flat3 C)) ++ R by simp, show A.length * 3 + (3 + C.length * 3) = (flat3 A ++ (cells3 x ++ flat3 C)).length by simp [la, lc]; omega, List.take_left']
  rfl

set_option maxRecDepth 100000 in
set_option maxHeartbeats 1000000 in
theorem zero_vrow (nm : ByteArray) (rws : Int) (cv : Value) (L : List ColD) (w : World) (h : Cols w cv L) (hlen : L.length ≤ 1000) :
    Calls Tryz.prog 71 #[tabV ⟨nm, rws, cv, L⟩] w fun e w' => ∃ v, e = .returned v ∧ VRow w' w.heap.size v (L.map zeroV) ∧ Rb w w' := by
  obtain ⟨ao, cap, rfl, h1, h2⟩ := Row3.form h
  have hr : Rb w (w.alloc (.cells #[.string nm, .int .i64 rws, .slice ao L.length cap] 69)) := (Below.refl _ w).alloc (Nat.le_refl _) _
  have hfalse : ∀ w1 w2, Fr (fun _ => False) w1 w2 → Rb w1 w2 := fun w1 w2 hf => hf.rb fun k hk => hk.elim
  have hcl := rowofZ_any nm rws (.slice ao L.length cap) L (w.alloc (.cells #[.string nm, .int .i64 rws, .slice ao L.length cap] 69)) (fun _ => False) (fun _ _ => True) (fun _ => True) (fun k => zeroV (L.getD k ⟨⟨#[]⟩, 0, 0⟩)) (fun _ => true) hlen
    (fun w' hf => Row3.rb h (Rb.trans _ _ _ hr (hfalse _ _ hf))) (fun k hk => hk.elim) trivial (fun _ _ _ _ _ _ => trivial) (fun _ _ _ _ => trivial)
    (fun k hk w1 _ _ => by
      rw [List.getD_eq_getElem?_getD, List.getElem?_eq_getElem hk, Option.getD_some]
      exact (zero1_any L[k].kind L[k].max w1).mono fun e w2 ⟨he, hb⟩ => ⟨he, Fr.of_rb hb, fun _ => trivial, trivial⟩)
  have HR := Lib.hid hr
  have HX := Lib.hid (range_map_zero L (fun k => zeroV (L.getD k ⟨⟨#[]⟩, 0, 0⟩)) fun k hk => by rw [List.getD_eq_getElem?_getD, List.getElem?_eq_getElem hk, Option.getD_some])
  have HFA := Lib.hid hfalse
  clear h hr h1 h2 hfalse
  go_enter Tryz.func71, Tryz.ntmps71
  go_wp2_with fail
  refine hcl.mono ?_
  rintro e w2 ⟨hf, ⟨v, -, rfl, hv, -⟩ | ⟨⟨k, _, hk⟩, _, _⟩⟩
  · have HB2 := Lib.hid (Rb.trans _ _ _ HR.out (HFA.out _ _ hf))
    have hv0 : VRow w2 w.heap.size v _ := World.ownsRow.mono hv (by simp)
    have HV := Lib.hid hv0
    rw [HX.out] at HV
    obtain ⟨ao2, cap2, e2, _, _⟩ := Row3.form HV.out.vals
    rw [List.length_map] at e2
    subst e2
    clear hf hv hcl hv0
    go_wp2
    go_ret
    exact ⟨_, rfl, HV.out, HB2.out⟩
  · cases hk

/-- what a table's shelf may hold -/
structure PInv (s : Sh) : Prop where
  small : SmallS s
  c1 : 1 ≤ s.t.cols.length
  c8 : s.t.cols.length ≤ 8
  rows : ∀ t ∈ s.L, t.2.row.length = s.t.cols.length

def setE (sh : List Sh) (held : List Int) (t k col : Int) (x : ValD) : Int :=
  match shOf sh t with
  | none => 1
  | some s => if hasC (some s) col = false then 1 else if fitsV (s.t.cols.getD col.toNat ⟨⟨#[]⟩, 0, 0⟩) x = false then 1 else
    match getL k s.L with
    | some _ => 0
    | none => if heldOf held t = 0 then 4 else 0

theorem shut_set (w : World) (b : Nat) (t k col : Int) (x : ValD) (h : Shut w b) : Calls Tryz.prog 25 #[ptrv b, i64 t, i64 k, i64 col, valV3 x] w fun e w' => e = .returned (i64 6) ∧ Rb w w' := by
  obtain ⟨xk, xn, xs⟩ := x
  have r := Lib.hid ((Below.refl _ w).alloc (Nat.le_refl _) (.cells #[.int .i64 xk, .int .i64 xn, .string xs] 60))
  have C := Lib.hid (open_shut _ b (Blk.rb h r.out))
  clear h
  go_enter Tryz.func25, Tryz.ntmps25
  go_wp2_with (go_at_call 68; refine C.out.mono ?_; rintro e w' ⟨rfl, rfl⟩)
  go_ret
  exact ⟨rfl, r.out⟩
theorem nil_set (w : World) (t k col : Int) (x : ValD) : Calls Tryz.prog 25 #[.pointer none, i64 t, i64 k, i64 col, valV3 x] w fun e w' => e = .returned (i64 6) ∧ Rb w w' := by
  obtain ⟨xk, xn, xs⟩ := x
  have r := Lib.hid ((Below.refl _ w).alloc (Nat.le_refl _) (.cells #[.int .i64 xk, .int .i64 xn, .string xs] 60))
  go_enter Tryz.func25, Tryz.ntmps25
  go_wp2_with (go_at_call 68; refine (open_nil _).mono ?_; rintro e w' ⟨rfl, rfl⟩)
  go_ret
  exact ⟨rfl, r.out⟩

set_option maxRecDepth 100000 in
set_option maxHeartbeats 1000000 in
theorem set_nocol (w : World) (v : Value) (sh : List Sh) (c : ClD) (t k col : Int) (x : ValD) (h : Duo w v sh c) (hc : hasC (shOf sh t) col = false) :
    Calls Tryz.prog 25 #[ptrv c.b, i64 t, i64 k, i64 col, valV3 x] w fun e w' => e = .returned (i64 1) ∧ Rb w w' := by
  obtain ⟨xk, xn, xs⟩ := x
  have r := (Below.refl _ w).alloc (Nat.le_refl _) (.cells #[.int .i64 xk, .int .i64 xn, .string xs] 60)
  have D := h.rb r
  have C := Lib.hid (open_yes _ c D.cl)
  have CS := Lib.hid (shelf_any _ c.st v sh t D.st)
  have c0 := D.cl.c0
  have R := Lib.hid r
  have CH : Hid (∀ W, Rb (w.alloc (.cells #[.int .i64 xk, .int .i64 xn, .string xs] 60)) W → Calls Tryz.prog 69 #[shPtr (shOf sh t), i64 col] W fun e w' => e = .returned (.bool false) ∧ W = w') := fun W hr => by
    cases hs : shOf sh t with
    | none => exact hascol_none W col
    | some s =>
      obtain ⟨i, _, hi, rfl⟩ := shOf_some hs
      rw [hs] at hc
      have := hascol_any W _ col ((D.rb hr).st.at_ _ (List.getElem_mem hi))
      rw [hc] at this
      exact this
  generalize shPtr (shOf sh t) = sp at *
  clear h D r hc
  obtain ⟨W, hW⟩ : ∃ W, W = w.alloc (.cells #[.int .i64 xk, .int .i64 xn, .string xs] 60) := ⟨_, rfl⟩
  rw [← hW] at C CS c0 R CH
  have CQ : ∀ n, Hid (Calls Tryz.prog 69 #[sp, i64 col] (W.drewN n) fun e w' => e = .returned (.bool false) ∧ ∃ m, w' = W.drewN m) := fun n =>
    (CH.out (W.drewN n) (Dn.rb ⟨n, rfl⟩)).mono fun e w' ⟨h1, h2⟩ => ⟨h1, n, h2.symm⟩
  have mixed : Tryz.prog.follows Departure.mixedOrders = true := by kernel_rfl
  have E := Lib.hid hW
  clear CH hW
  go_enter Tryz.func25, Tryz.ntmps25
  go_wp2_with (first | (rw [← E.out]; go_at_call 68; refine C.out.mono ?_; rintro e w' ⟨rfl, rfl⟩) | (go_at_call 42; refine CS.out.mono ?_; rintro e w' ⟨rfl, rfl⟩))
  go_quiet (exact (CQ _).out)
  go_wp2
  go_ret
  exact ⟨rfl, Rb.trans _ _ _ R.out (Dn.rb ⟨_, rfl⟩)⟩

/-- what the ways through Set know, behind the first two calls -/
structure SetC (w : World) (v : Value) (A B : List Sh) (s : Sh) (c : ClD) (j : Nat) (x : ValD) (W : World) : Prop where
  duo : Duo W v (A ++ s :: B) c
  rb : Rb w W
  box : Blk W w.heap.size 60 [.int .i64 x.k, .int .i64 x.n, .string x.s]
theorem SetC.then_rb {w W W' : World} {v : Value} {A B : List Sh} {s : Sh} {c : ClD} {j : Nat} {x : ValD} (h : SetC w v A B s c j x W) (hr : Rb W W') : SetC w v A B s c j x W' := ⟨h.duo.rb hr, Rb.trans _ _ _ h.rb hr, h.box.rb hr⟩

set_option maxRecDepth 100000 in
set_option maxHeartbeats 1000000 in
theorem set_nofit (w : World) (v : Value) (A B : List Sh) (s : Sh) (c : ClD) (k : Int) (j : Nat) (x : ValD) (h : Duo w v (A ++ s :: B) c) (hj : j < s.t.cols.length) (hok : ValOk x) (hf : fitsV s.t.cols[j] x = false) :
    Calls Tryz.prog 25 #[ptrv c.b, i64 A.length, i64 k, i64 j, valV3 x] w fun e w' => e = .returned (i64 1) ∧ Rb w w' := by
  obtain ⟨W, hW⟩ : ∃ W, W = w.alloc (.cells #[.int .i64 x.k, .int .i64 x.n, .string x.s] 60) := ⟨_, rfl⟩
  have r : Rb w W := by rw [hW]; exact (Below.refl _ w).alloc (Nat.le_refl _) _
  have D : SetC w v A B s c j x W := ⟨h.rb r, r, by rw [hW]; exact Blk.new w _ _⟩
  have hsh : shOf (A ++ s :: B) (A.length : Int) = some s := by unfold shOf; simp
  have CS0 := shelf_any W c.st v _ A.length D.duo.st
  rw [hsh] at CS0
  dsimp only [shPtr] at CS0
  have S := D.duo.st.at_ s (by simp)
  obtain ⟨ao, cap, ecv, hc1, hc2⟩ := S.cform
  obtain ⟨ao', cap', ecv', _, _, hcc⟩ := S.cols.cols
  rw [ecv] at ecv'
  simp only [Value.slice.injEq] at ecv'
  obtain ⟨rfl, -, rfl⟩ := ecv'
  obtain ⟨g, o, rfl, hcell⟩ := hcc (by omega)
  obtain ⟨z0, z1, z2⟩ := hcell j hj
  have C := Lib.hid (open_yes _ c D.duo.cl)
  have CS := Lib.hid CS0
  have c0 := D.duo.cl.c0
  have s2 := S.c2
  rw [ecv] at s2
  have x0 : W.cell? ⟨w.heap.size, 0, none⟩ = some (.int .i64 x.k) := D.box.cell 0
  have x1 : W.cell? ⟨w.heap.size, 1, none⟩ = some (.int .i64 x.n) := D.box.cell 1
  have x2 : W.cell? ⟨w.heap.size, 2, none⟩ = some (.string x.s) := D.box.cell 2
  have CH : Hid (Calls Tryz.prog 69 #[ptrv s.b, i64 j] W.drew fun e w'' => e = .returned (.bool true) ∧ w'' = W.drew) := by
    have := hascol_any W.drew s j (S.rb (Rb.drew W))
    rw [show hasC (some s) j = true by unfold hasC; simp; omega] at this
    exact this.mono fun e w' ⟨h1, h2⟩ => ⟨h1, h2.symm⟩
  have CF : Hid (Calls Tryz.prog 70 #[vv x.k x.n x.s, tv s.t.cols[j].kind s.t.cols[j].max] W.drew fun e w' => e = .returned (.bool false) ∧ Rb W.drew w') := by
    have := fits_any x.k x.n x.s s.t.cols[j].kind s.t.cols[j].max W.drew hok.s
    rw [show fitsB x.k x.n x.s.data.toList s.t.cols[j].kind s.t.cols[j].max = false from hf] at this
    exact this
  have E := Lib.hid hW
  have HD := Lib.hid D
  clear h hW r D hsh CS0 S ecv hcc hcell hok
  generalize s.t.cols[j] = q at *
  generalize s.t.cols.length = nn at *
  generalize hbx : w.heap.size = bx at *
  have HBX := Lib.hid hbx
  clear hbx hf
  generalize A.length = ix at *
  obtain ⟨xk, xn, xs⟩ := x
  obtain ⟨qn, qk, qm⟩ := q
  dsimp only at *
  go_enter Tryz.func25, Tryz.ntmps25
  go_wp2_with (first | (rw [HBX.out, ← E.out]; go_at_call 68; refine C.out.mono ?_; rintro e w' ⟨rfl, rfl⟩) | (go_at_call 42; refine CS.out.mono ?_; rintro e w' ⟨rfl, rfl⟩))
  refine wp_region_still_tail 15 (by kernel_rfl) (by kernel_rfl) ?_
  simp only [List.take_succ_cons, List.take_zero, List.drop_succ_cons, List.drop_zero]
  still_step
  still_step
  still_call CH.out
  repeat still_step
  refine wpStill_nil ?_
  change wpList _ _ _ _ _ W.drew
  obtain ⟨W2, hW2⟩ : ∃ W2, W2 = W.drew := ⟨_, rfl⟩
  rw [← hW2] at CF ⊢
  have HR2 : Hid (Rb W W2) := by rw [hW2]; exact Rb.drew W
  clear hW2 x0 x1 x2 z0 z1 z2 s2 c0
  go_wp2_with (go_at_call 70; refine CF.out.mono ?_; rintro e w3 ⟨rfl, hr3⟩)
  go_ret
  exact ⟨rfl, Rb.trans _ _ _ HD.out.rb (Rb.trans _ _ _ HR2.out hr3)⟩
end Go.Proofs.YtjfpeklfgnajoaaGreat.L6

namespace Go.Proofs.YtjfpeklfgnajoaaGreat.L6
open Go.ChangeShapes Go.WideShapes Go.ChangeAt Go.RowKit By Reg Val
set_option linter.unusedVariables false
set_option linter.unusedSimpArgs false

/-- hold, as an operation on both -/
theorem HoldP.op {w w' : World} {v : Value} {A B : List Sh} {s : Sh} {c : ClD} {n : Int} (h : Duo w v (A ++ s :: B) c) (k : HoldP w v A B s c n w') :
    OpP w v (A ++ s :: B) c w' (A ++ { s with held := s.held + (n - c.held.getD A.length 0) } :: B) { c with held := c.held.set A.length n } := by
  have hsf : ∀ q, SF (A ++ { s with held := s.held + (n - c.held.getD A.length 0) } :: B) q → SF (A ++ s :: B) q := fun q ⟨x, hx, hq⟩ => by
    simp only [List.mem_append, List.mem_cons] at hx
    rcases hx with hx | rfl | hx
    · exact ⟨x, by simp [hx], hq⟩
    · exact ⟨s, by simp, hq⟩
    · exact ⟨x, by simp [hx], hq⟩
  refine ⟨⟨k.st, k.cl, fun q hq hq' => h.ap q hq (hsf q hq'), ?_⟩, rfl, rfl, k.fr.mono fun q hq _ => ?_, fun q hq => .inl ?_⟩
  · show (c.held.set A.length n).length = _
    rw [List.length_set, h.len]; simp
  · rcases hq with rfl | hq
    · exact .inl ⟨s, by simp, .inl rfl⟩
    · exact .inr (.inr (.inl hq))
  · rcases hq with hq | hq
    · exact .inl (hsf q hq)
    · exact .inr hq

/-- a store and a claim as they were at w, in a world of which w is a beginning -/
structure DuoN (w w4 : World) (v : Value) (sh : List Sh) (c : ClD) : Prop where
  duo : Duo w v sh c
  rb : Rb w w4
theorem DuoN.rbw {w w4 w5 : World} {v : Value} {sh : List Sh} {c : ClD} {g : Nat} (h : DuoN w w4 v sh c) (hw : Wrote g w4 w5) (hg : w.heap.size ≤ g) : Rb w w5 :=
  ((Fr.of_rb (F := fun _ => False) h.rb).wrote hw (.inr hg)).rb fun k hk => hk.elim
theorem DuoN.wrote {w w4 w5 : World} {v : Value} {sh : List Sh} {c : ClD} {g : Nat} (h : DuoN w w4 v sh c) (hw : Wrote g w4 w5) (hg : w.heap.size ≤ g) : Duo w5 v sh c := h.duo.rb (h.rbw hw hg)
/-- what Set leaves, where it sets -/
def SetOk (w : World) (v : Value) (A B : List Sh) (s : Sh) (c : ClD) (k : Int) (j : Nat) (x : ValD) (w' : World) : Prop :=
  ∃ s' y, y.ao.isNone = false ∧ y.row = (match getL k s.L with | some z => z.row | none => s.t.cols.map zeroV).set j x ∧ s'.b = s.b ∧ s'.t = s.t ∧ s'.L = putL k y s.L ∧
    s'.held = (match getL k s.L with | some _ => s.held | none => s.held - 1) ∧
    OpP w v (A ++ s :: B) c w' (A ++ s' :: B) { c with held := (match getL k s.L with | some _ => c.held | none => c.held.set A.length (c.held.getD A.length 0 - 1)), tch := tchM (A.length, k) ((getL k s.L).getD sv0) c.tch }

set_option maxRecDepth 100000 in
set_option maxHeartbeats 1000000 in
theorem set_old (w : World) (v : Value) (A B : List Sh) (s : Sh) (c : ClD) (k : Int) (j : Nat) (x : ValD) (h : Duo w v (A ++ s :: B) c) (hj : j < s.t.cols.length) (hok : ValOk x) (hf : fitsV s.t.cols[j] x = true)
    (hp : PInv s) (hA : A.length ≤ 1000) (hL : s.L.length ≤ 999) (hk : I64 k) (z : SV) (hz : getL k s.L = some z) :
    Calls Tryz.prog 25 #[ptrv c.b, i64 A.length, i64 k, i64 j, valV3 x] w fun e w' => e = .returned (i64 0) ∧ SetOk w v A B s c k j x w' := by
  obtain ⟨W, hW⟩ : ∃ W, W = w.alloc (.cells #[.int .i64 x.k, .int .i64 x.n, .string x.s] 60) := ⟨_, rfl⟩
  have r : Rb w W := by rw [hW]; exact (Below.refl _ w).alloc (Nat.le_refl _) _
  have D : SetC w v A B s c j x W := ⟨h.rb r, r, by rw [hW]; exact Blk.new w _ _⟩
  have hsh : shOf (A ++ s :: B) (A.length : Int) = some s := by unfold shOf; simp
  have CS0 := shelf_any W c.st v _ A.length D.duo.st
  rw [hsh] at CS0
  dsimp only [shPtr] at CS0
  have S := D.duo.st.at_ s (by simp)
  obtain ⟨ao, cap, ecv, hc1, hc2⟩ := S.cform
  obtain ⟨ao', cap', ecv', _, _, hcc⟩ := S.cols.cols
  rw [ecv] at ecv'
  simp only [Value.slice.injEq] at ecv'
  obtain ⟨rfl, -, rfl⟩ := ecv'
  obtain ⟨g, o, rfl, hcell⟩ := hcc (by omega)
  obtain ⟨z0, z1, z2⟩ := hcell j hj
  have C := Lib.hid (open_yes _ c D.duo.cl)
  have CS := Lib.hid CS0
  have c0 := D.duo.cl.c0
  have s2 := S.c2
  rw [ecv] at s2
  have x0 : W.cell? ⟨w.heap.size, 0, none⟩ = some (.int .i64 x.k) := D.box.cell 0
  have x1 : W.cell? ⟨w.heap.size, 1, none⟩ = some (.int .i64 x.n) := D.box.cell 1
  have x2 : W.cell? ⟨w.heap.size, 2, none⟩ = some (.string x.s) := D.box.cell 2
  have CH : Hid (Calls Tryz.prog 69 #[ptrv s.b, i64 j] W.drew fun e w'' => e = .returned (.bool true) ∧ w'' = W.drew) := by
    have := hascol_any W.drew s j (S.rb (Rb.drew W))
    rw [show hasC (some s) j = true by unfold hasC; simp; omega] at this
    exact this.mono fun e w' ⟨h1, h2⟩ => ⟨h1, h2.symm⟩
  have CF : Hid (Calls Tryz.prog 70 #[vv x.k x.n x.s, tv s.t.cols[j].kind s.t.cols[j].max] W.drew fun e w' => e = .returned (.bool true) ∧ Rb W.drew w') := by
    have := fits_any x.k x.n x.s s.t.cols[j].kind s.t.cols[j].max W.drew hok.s
    rw [show fitsB x.k x.n x.s.data.toList s.t.cols[j].kind s.t.cols[j].max = true from hf] at this
    exact this
  have hget : getSh (A ++ s :: B) (A.length : Int) k = getL k s.L := by unfold getSh; rw [hsh]
  have CR : Hid (∀ W', Rb W W' → Calls Tryz.prog 15 #[ptrv c.st, i64 A.length, i64 k] W' (RowPost W' (getL k s.L))) := fun W' hr => by
    have hln : ((getL k s.L).getD sv0).row.length ≤ 1000 := by
      cases hg : getL k s.L with
      | none => exact Nat.zero_le _
      | some y =>
        have := hp.rows _ (getL_mem hg)
        have h8 := hp.c8
        show y.row.length ≤ 1000
        dsimp only at this
        omega
    have := row_any W' c.st v (A ++ s :: B) A.length k (D.duo.rb hr).st (by rw [hget]; exact hln)
    rw [hget] at this
    exact this
  have hzl : z.row.length = s.t.cols.length := hp.rows _ (getL_mem hz)
  rw [hz] at CR
  unfold SetOk
  rw [hz]
  dsimp only
  have HZ := Lib.hid hz
  clear hz
  have E := Lib.hid hW
  have HD := Lib.hid D
  have HP := Lib.hid hp
  have HJ := Lib.hid hj
  have HH := Lib.hid h
  clear h hW r D hsh CS0 S ecv hcc hcell hok hget hp
  generalize s.t.cols[j] = q at *
  generalize hnn : s.t.cols.length = nn at *
  have HNN := Lib.hid hnn
  generalize hbx : w.heap.size = bx at *
  have HBX := Lib.hid hbx
  clear hbx hf hnn
  obtain ⟨xk, xn, xs⟩ := x
  obtain ⟨qn, qk, qm⟩ := q
  dsimp only at *
  go_enter Tryz.func25, Tryz.ntmps25
  go_wp2_with (first | (rw [HBX.out, ← E.out]; go_at_call 68; refine C.out.mono ?_; rintro e w' ⟨rfl, rfl⟩) | (go_at_call 42; refine CS.out.mono ?_; rintro e w' ⟨rfl, rfl⟩))
  refine wp_region_still_tail 15 (by kernel_rfl) (by kernel_rfl) ?_
  simp only [List.take_succ_cons, List.take_zero, List.drop_succ_cons, List.drop_zero]
  still_step
  still_step
  still_call CH.out
  repeat still_step
  refine wpStill_nil ?_
  change wpList _ _ _ _ _ W.drew
  obtain ⟨W2, hW2⟩ : ∃ W2, W2 = W.drew := ⟨_, rfl⟩
  rw [← hW2] at CF ⊢
  have HR2 : Hid (Rb W W2) := by rw [hW2]; exact Rb.drew W
  clear hW2 x0 x1 x2 z0 z1 z2 s2 c0
  go_wp2_with (go_at_call 70; refine CF.out.mono ?_; rintro e w3 ⟨rfl, hr3⟩; have c0 := (HD.out.duo.rb (Rb.trans _ _ _ HR2.out hr3)).cl.c0; have CR3 := Lib.hid (CR.out w3 (Rb.trans _ _ _ HR2.out hr3)))
  have HR3 : Hid (Rb W w3) := Rb.trans _ _ _ HR2.out hr3
  clear hr3 CR CF CH
  go_wp2_with (go_at_call 15; refine CR3.out.mono ?_)
  first | (rintro e w4 v' rfl v1 v2 v3 v4) | (rintro e w4 ⟨v', rfl, v1, v2, v3, v4⟩)
  dsimp only [Option.getD] at v1 v3
  have hzl2 : z.row.length = nn := hzl
  have HLEN : Hid (z.row.length = nn) := hzl2
  have HV := Lib.hid v1
  have HR4 : Hid (Rb w3 w4) := v2
  have HBOX : Hid (Blk w4 bx 60 [.int .i64 xk, .int .i64 xn, .string xs]) := by
    have := HD.out.box
    rw [HBX.out] at this
    exact this.rb (Rb.trans _ _ _ HR3.out v2)
  have DUO4 : Hid (DuoN w w4 v (A ++ s :: B) c) := ⟨HH.out, Rb.trans _ _ _ HD.out.rb (Rb.trans _ _ _ HR3.out v2)⟩
  have HGE : Hid (w.heap.size ≤ w3.heap.size) := (Rb.trans _ _ _ HD.out.rb HR3.out).size
  clear v1 v2 v3 v4 hzl hzl2 CR3 c0
  -- the cell, then the touch
  obtain ⟨g', cap', cs, ev, hbk, hge, hl1, hl2, hl3, hl4⟩ := VRow.blk HV.out (by rw [HLEN.out]; omega)
  rw [HLEN.out] at ev hl1
  subst ev
  obtain ⟨x0, x1, x2⟩ : w4.cell? ⟨bx, 0, none⟩ = some (.int .i64 xk) ∧ w4.cell? ⟨bx, 1, none⟩ = some (.int .i64 xn) ∧ w4.cell? ⟨bx, 2, none⟩ = some (.string xs) := by
    have hb := HBOX.out
    exact ⟨hb.cell 0, hb.cell 1, hb.cell 2⟩
  have HBK := Lib.hid hbk
  have HX : Hid (w3.heap.size ≤ g' ∧ z.row.length ≤ cap' ∧ cap' ≤ maxLen ∧ cs.length = cap' * 3 ∧ cs.take (z.row.length * 3) = flat3 z.row) := ⟨hge, by rw [HLEN.out]; exact hl1, hl2, hl3, hl4⟩
  have hm1 : ((j : Int)) < (nn : Int) := by have := HJ.out; omega
  have hfit : j * 3 + 3 ≤ cs.length := by rw [hl3]; have := HJ.out; omega
  have HFIT := Lib.hid hfit
  clear hbk hge hl2 hl3 hl4 hfit
  go_wp2_with (refine wpList_store rfl 60 _ _ rfl g' (j * 3) 60 cs [.int .i64 xk, .int .i64 xn, .string xs] _ rfl rfl HBK.out rfl sizeV HFIT.out (oneV _ _ _) ?_)
  intro w5 hb5 hw5
  have hb5' : Blk w5 g' 60 (cs.take (j * 3) ++ cells3 ⟨xk, xn, xs⟩ ++ cs.drop (j * 3 + 3)) := by simpa [cells3] using hb5
  have hV5 : VRow w5 w3.heap.size (.slice (some ⟨g', 0, none⟩) nn cap') (z.row.set j ⟨xk, xn, xs⟩) := by
    have := VRow.mk' (l := z.row.set j ⟨xk, xn, xs⟩) hb5' HX.out.1 (by rw [List.length_set]; exact HX.out.2.1) HX.out.2.2.1 (by rw [List.length_append, List.length_append, List.length_take, List.length_drop]; have := HFIT.out; have := HX.out.2.2.2.1; simp; omega) (by
      rw [List.length_set]
      exact flat3_set ⟨xk, xn, xs⟩ (by rw [HLEN.out]; exact HJ.out) HX.out.2.2.2.2)
    rw [List.length_set, HLEN.out] at this
    exact this
  have DUO5 : Duo w5 v (A ++ s :: B) c := (DuoN.wrote DUO4.out) hw5 (by have := HX.out.1; have := HGE.out; omega)
  have hy : VIn w5 ⟨some ⟨g', 0, none⟩, nn, cap', z.row.set j ⟨xk, xn, xs⟩⟩ := ⟨World.ownsRow.mono hV5 (Nat.zero_le _), by show 0 < (z.row.set j ⟨xk, xn, xs⟩).length; rw [List.length_set, HLEN.out]; have := HJ.out; omega⟩
  have CT := Lib.hid (touch_any w5 v A B s c k ⟨some ⟨g', 0, none⟩, nn, cap', z.row.set j ⟨xk, xn, xs⟩⟩ DUO5 hk hA hL (fun _ => hy))
  have HW5 := Lib.hid hw5
  have HD5 := Lib.hid DUO5
  clear hb5 hb5' hw5 hV5 hy DUO5 x0 x1 x2
  go_wp2_with (go_at_call 72; refine CT.out.mono ?_)
  first | (rintro e w6 u rfl s' t1 t2 t3 t4 t5) | (rintro e w6 ⟨⟨u, rfl⟩, s', t1, t2, t3, t4, t5⟩)
  have HT : Hid (s'.b = s.b ∧ s'.t = s.t ∧ s'.held = s.held ∧ s'.L = _ ∧ OpP w5 v (A ++ s :: B) c w6 _ _) := ⟨t1, t2, t3, t4, t5⟩
  clear t1 t2 t3 t4 t5 CT
  go_wp2
  go_ret
  obtain ⟨t1, t2, t3, t4, t5⟩ := HT.out

  refine ⟨rfl, s', _, rfl, rfl, t1, t2, t4, t3, ?_⟩
  exact OpP.rb (DuoN.rbw DUO4.out HW5.out (by have := HX.out.1; have := HGE.out; omega)) (by simpa [HZ.out] using t5)


set_option maxRecDepth 100000 in
set_option maxHeartbeats 1000000 in
theorem set_full (w : World) (v : Value) (A B : List Sh) (s : Sh) (c : ClD) (k : Int) (j : Nat) (x : ValD) (h : Duo w v (A ++ s :: B) c) (hj : j < s.t.cols.length) (hok : ValOk x) (hf : fitsV s.t.cols[j] x = true)
    (hp : PInv s) (hA : A.length ≤ 1000) (hL : s.L.length ≤ 999) (hk : I64 k) (hz : getL k s.L = none) (h0 : c.held.getD A.length 0 = 0) :
    Calls Tryz.prog 25 #[ptrv c.b, i64 A.length, i64 k, i64 j, valV3 x] w fun e w' => e = .returned (i64 4) ∧ Rb w w' := by
  obtain ⟨W, hW⟩ : ∃ W, W = w.alloc (.cells #[.int .i64 x.k, .int .i64 x.n, .string x.s] 60) := ⟨_, rfl⟩
  have r : Rb w W := by rw [hW]; exact (Below.refl _ w).alloc (Nat.le_refl _) _
  have D : SetC w v A B s c j x W := ⟨h.rb r, r, by rw [hW]; exact Blk.new w _ _⟩
  have hsh : shOf (A ++ s :: B) (A.length : Int) = some s := by unfold shOf; simp
  have CS0 := shelf_any W c.st v _ A.length D.duo.st
  rw [hsh] at CS0
  dsimp only [shPtr] at CS0
  have S := D.duo.st.at_ s (by simp)
  obtain ⟨ao, cap, ecv, hc1, hc2⟩ := S.cform
  obtain ⟨ao', cap', ecv', _, _, hcc⟩ := S.cols.cols
  rw [ecv] at ecv'
  simp only [Value.slice.injEq] at ecv'
  obtain ⟨rfl, -, rfl⟩ := ecv'
  obtain ⟨g, o, rfl, hcell⟩ := hcc (by omega)
  obtain ⟨z0, z1, z2⟩ := hcell j hj
  have C := Lib.hid (open_yes _ c D.duo.cl)
  have CS := Lib.hid CS0
  have c0 := D.duo.cl.c0
  have s2 := S.c2
  rw [ecv] at s2
  have x0 : W.cell? ⟨w.heap.size, 0, none⟩ = some (.int .i64 x.k) := D.box.cell 0
  have x1 : W.cell? ⟨w.heap.size, 1, none⟩ = some (.int .i64 x.n) := D.box.cell 1
  have x2 : W.cell? ⟨w.heap.size, 2, none⟩ = some (.string x.s) := D.box.cell 2
  have CH : Hid (Calls Tryz.prog 69 #[ptrv s.b, i64 j] W.drew fun e w'' => e = .returned (.bool true) ∧ w'' = W.drew) := by
    have := hascol_any W.drew s j (S.rb (Rb.drew W))
    rw [show hasC (some s) j = true by unfold hasC; simp; omega] at this
    exact this.mono fun e w' ⟨h1, h2⟩ => ⟨h1, h2.symm⟩
  have CF : Hid (Calls Tryz.prog 70 #[vv x.k x.n x.s, tv s.t.cols[j].kind s.t.cols[j].max] W.drew fun e w' => e = .returned (.bool true) ∧ Rb W.drew w') := by
    have := fits_any x.k x.n x.s s.t.cols[j].kind s.t.cols[j].max W.drew hok.s
    rw [show fitsB x.k x.n x.s.data.toList s.t.cols[j].kind s.t.cols[j].max = true from hf] at this
    exact this
  have hget : getSh (A ++ s :: B) (A.length : Int) k = getL k s.L := by unfold getSh; rw [hsh]
  have CR : Hid (∀ W', Rb W W' → Calls Tryz.prog 15 #[ptrv c.st, i64 A.length, i64 k] W' (RowPost W' (getL k s.L))) := fun W' hr => by
    have hln : ((getL k s.L).getD sv0).row.length ≤ 1000 := by
      cases hg : getL k s.L with
      | none => exact Nat.zero_le _
      | some y =>
        have := hp.rows _ (getL_mem hg)
        have h8 := hp.c8
        show y.row.length ≤ 1000
        dsimp only at this
        omega
    have := row_any W' c.st v (A ++ s :: B) A.length k (D.duo.rb hr).st (by rw [hget]; exact hln)
    rw [hget] at this
    exact this
  rw [hz] at CR
  clear hz
  have E := Lib.hid hW
  have HD := Lib.hid D
  have HP := Lib.hid hp
  have HJ := Lib.hid hj
  have HH := Lib.hid h
  clear h hW r D hsh CS0 S ecv hcc hcell hok hget hp
  generalize s.t.cols[j] = q at *
  generalize hnn : s.t.cols.length = nn at *
  have HNN := Lib.hid hnn
  generalize hbx : w.heap.size = bx at *
  have HBX := Lib.hid hbx
  clear hbx hf hnn
  obtain ⟨xk, xn, xs⟩ := x
  obtain ⟨qn, qk, qm⟩ := q
  dsimp only at *
  go_enter Tryz.func25, Tryz.ntmps25
  go_wp2_with (first | (rw [HBX.out, ← E.out]; go_at_call 68; refine C.out.mono ?_; rintro e w' ⟨rfl, rfl⟩) | (go_at_call 42; refine CS.out.mono ?_; rintro e w' ⟨rfl, rfl⟩))
  refine wp_region_still_tail 15 (by kernel_rfl) (by kernel_rfl) ?_
  simp only [List.take_succ_cons, List.take_zero, List.drop_succ_cons, List.drop_zero]
  still_step
  still_step
  still_call CH.out
  repeat still_step
  refine wpStill_nil ?_
  change wpList _ _ _ _ _ W.drew
  obtain ⟨W2, hW2⟩ : ∃ W2, W2 = W.drew := ⟨_, rfl⟩
  rw [← hW2] at CF ⊢
  have HR2 : Hid (Rb W W2) := by rw [hW2]; exact Rb.drew W
  clear hW2 x0 x1 x2 z0 z1 z2 s2 c0
  go_wp2_with (go_at_call 70; refine CF.out.mono ?_; rintro e w3 ⟨rfl, hr3⟩; have c0 := (HD.out.duo.rb (Rb.trans _ _ _ HR2.out hr3)).cl.c0; have CR3 := Lib.hid (CR.out w3 (Rb.trans _ _ _ HR2.out hr3)))
  have HR3 : Hid (Rb W w3) := Rb.trans _ _ _ HR2.out hr3
  clear hr3 CR CF CH
  go_wp2_with (go_at_call 15; refine CR3.out.mono ?_)
  first | (rintro e w4 v' rfl v1 v2 v3 v4) | (rintro e w4 ⟨v', rfl, v1, v2, v3, v4⟩)
  have hv4 := v4 rfl
  subst hv4
  have HR4 : Hid (Rb w3 w4) := v2
  have RW4 : Hid (Rb w w4) := Rb.trans _ _ _ HD.out.rb (Rb.trans _ _ _ HR3.out v2)
  have D4 := HH.out.rb RW4.out
  have hlt : A.length < c.held.length := by rw [HH.out.len]; simp
  obtain ⟨gh, caph, eh, eh1, eh2, eh3⟩ := D4.cl.rh.int_at (j := A.length) hlt
  have c1 := D4.cl.c1
  rw [eh] at c1
  have hcap2 : A.length < c.held.length := hlt
  rw [h0] at eh3
  clear v1 v2 v3 v4 CR3 c0 D4 eh h0
  generalize c.held.length = hn at *
  go_wp2
  go_ret
  exact ⟨rfl, RW4.out⟩


set_option maxRecDepth 100000 in
set_option maxHeartbeats 1000000 in
theorem set_new (w : World) (v : Value) (A B : List Sh) (s : Sh) (c : ClD) (k : Int) (j : Nat) (x : ValD) (h : Duo w v (A ++ s :: B) c) (hj : j < s.t.cols.length) (hok : ValOk x) (hf : fitsV s.t.cols[j] x = true)
    (hp : PInv s) (hA : A.length ≤ 1000) (hL : s.L.length ≤ 999) (hk : I64 k) (hz : getL k s.L = none) (h0 : c.held.getD A.length 0 ≠ 0) (hb : -1000 ≤ c.held.getD A.length 0 ∧ c.held.getD A.length 0 ≤ 100000) :
    Calls Tryz.prog 25 #[ptrv c.b, i64 A.length, i64 k, i64 j, valV3 x] w fun e w' => e = .returned (i64 0) ∧ SetOk w v A B s c k j x w' := by
  obtain ⟨W, hW⟩ : ∃ W, W = w.alloc (.cells #[.int .i64 x.k, .int .i64 x.n, .string x.s] 60) := ⟨_, rfl⟩
  have r : Rb w W := by rw [hW]; exact (Below.refl _ w).alloc (Nat.le_refl _) _
  have D : SetC w v A B s c j x W := ⟨h.rb r, r, by rw [hW]; exact Blk.new w _ _⟩
  have hsh : shOf (A ++ s :: B) (A.length : Int) = some s := by unfold shOf; simp
  have CS0 := shelf_any W c.st v _ A.length D.duo.st
  rw [hsh] at CS0
  dsimp only [shPtr] at CS0
  have S := D.duo.st.at_ s (by simp)
  obtain ⟨ao, cap, ecv, hc1, hc2⟩ := S.cform
  obtain ⟨ao', cap', ecv', _, _, hcc⟩ := S.cols.cols
  rw [ecv] at ecv'
  simp only [Value.slice.injEq] at ecv'
  obtain ⟨rfl, -, rfl⟩ := ecv'
  obtain ⟨g, o, rfl, hcell⟩ := hcc (by omega)
  obtain ⟨z0, z1, z2⟩ := hcell j hj
  have C := Lib.hid (open_yes _ c D.duo.cl)
  have CS := Lib.hid CS0
  have c0 := D.duo.cl.c0
  have s2 := S.c2
  rw [ecv] at s2
  have x0 : W.cell? ⟨w.heap.size, 0, none⟩ = some (.int .i64 x.k) := D.box.cell 0
  have x1 : W.cell? ⟨w.heap.size, 1, none⟩ = some (.int .i64 x.n) := D.box.cell 1
  have x2 : W.cell? ⟨w.heap.size, 2, none⟩ = some (.string x.s) := D.box.cell 2
  have CH : Hid (Calls Tryz.prog 69 #[ptrv s.b, i64 j] W.drew fun e w'' => e = .returned (.bool true) ∧ w'' = W.drew) := by
    have := hascol_any W.drew s j (S.rb (Rb.drew W))
    rw [show hasC (some s) j = true by unfold hasC; simp; omega] at this
    exact this.mono fun e w' ⟨h1, h2⟩ => ⟨h1, h2.symm⟩
  have CF : Hid (Calls Tryz.prog 70 #[vv x.k x.n x.s, tv s.t.cols[j].kind s.t.cols[j].max] W.drew fun e w' => e = .returned (.bool true) ∧ Rb W.drew w') := by
    have := fits_any x.k x.n x.s s.t.cols[j].kind s.t.cols[j].max W.drew hok.s
    rw [show fitsB x.k x.n x.s.data.toList s.t.cols[j].kind s.t.cols[j].max = true from hf] at this
    exact this
  have hget : getSh (A ++ s :: B) (A.length : Int) k = getL k s.L := by unfold getSh; rw [hsh]
  have CR : Hid (∀ W', Rb W W' → Calls Tryz.prog 15 #[ptrv c.st, i64 A.length, i64 k] W' (RowPost W' (getL k s.L))) := fun W' hr => by
    have hln : ((getL k s.L).getD sv0).row.length ≤ 1000 := by
      cases hg : getL k s.L with
      | none => exact Nat.zero_le _
      | some y =>
        have := hp.rows _ (getL_mem hg)
        have h8 := hp.c8
        show y.row.length ≤ 1000
        dsimp only at this
        omega
    have := row_any W' c.st v (A ++ s :: B) A.length k (D.duo.rb hr).st (by rw [hget]; exact hln)
    rw [hget] at this
    exact this
  unfold SetOk
  rw [hz] at CR
  rw [hz]
  dsimp only
  have HZ := Lib.hid hz
  clear hz
  have E := Lib.hid hW
  have HD := Lib.hid D
  have HP := Lib.hid hp
  have HJ := Lib.hid hj
  have HH := Lib.hid h
  clear h hW r D hsh CS0 S ecv hcc hcell hok hget hp
  generalize s.t.cols[j] = q at *
  generalize hnn : s.t.cols.length = nn at *
  have HNN := Lib.hid hnn
  generalize hbx : w.heap.size = bx at *
  have HBX := Lib.hid hbx
  clear hbx hf hnn
  obtain ⟨xk, xn, xs⟩ := x
  obtain ⟨qn, qk, qm⟩ := q
  dsimp only at *
  go_enter Tryz.func25, Tryz.ntmps25
  go_wp2_with (first | (rw [HBX.out, ← E.out]; go_at_call 68; refine C.out.mono ?_; rintro e w' ⟨rfl, rfl⟩) | (go_at_call 42; refine CS.out.mono ?_; rintro e w' ⟨rfl, rfl⟩))
  refine wp_region_still_tail 15 (by kernel_rfl) (by kernel_rfl) ?_
  simp only [List.take_succ_cons, List.take_zero, List.drop_succ_cons, List.drop_zero]
  still_step
  still_step
  still_call CH.out
  repeat still_step
  refine wpStill_nil ?_
  change wpList _ _ _ _ _ W.drew
  obtain ⟨W2, hW2⟩ : ∃ W2, W2 = W.drew := ⟨_, rfl⟩
  rw [← hW2] at CF ⊢
  have HR2 : Hid (Rb W W2) := by rw [hW2]; exact Rb.drew W
  clear hW2 x0 x1 x2 z0 z1 z2 s2 c0
  go_wp2_with (go_at_call 70; refine CF.out.mono ?_; rintro e w3 ⟨rfl, hr3⟩; have c0 := (HD.out.duo.rb (Rb.trans _ _ _ HR2.out hr3)).cl.c0; have CR3 := Lib.hid (CR.out w3 (Rb.trans _ _ _ HR2.out hr3)))
  have HR3 : Hid (Rb W w3) := Rb.trans _ _ _ HR2.out hr3
  clear hr3 CR CF CH
  go_wp2_with (go_at_call 15; refine CR3.out.mono ?_)
  first | (rintro e w4 v' rfl v1 v2 v3 v4) | (rintro e w4 ⟨v', rfl, v1, v2, v3, v4⟩)
  have hv4 := v4 rfl
  subst hv4
  have HR4 : Hid (Rb w3 w4) := v2
  have RW4 : Hid (Rb w w4) := Rb.trans _ _ _ HD.out.rb (Rb.trans _ _ _ HR3.out v2)
  have D4 := HH.out.rb RW4.out
  have hlt : A.length < c.held.length := by rw [HH.out.len]; simp
  obtain ⟨gh, caph, eh, eh1, eh2, eh3⟩ := D4.cl.rh.int_at (j := A.length) hlt
  have c1 := D4.cl.c1
  rw [eh] at c1
  have hcap2 : A.length < c.held.length := hlt
  obtain ⟨hh, hhx⟩ : ∃ hh, hh = c.held.getD A.length 0 := ⟨_, rfl⟩
  rw [← hhx] at eh3 h0 hb
  have hne : (hh == 0) = false := beq_eq_false_iff_ne.2 h0
  have HO := Lib.hid (hold_any w4 v A B s c (hh - 1) D4.st D4.cl D4.len hA D4.ap (by omega) (by have := HP.out.small.h0; have := HP.out.small.h1; omega) (by rw [← hhx]; omega))
  have hw1 : IntKind.i64.wrap (hh - 1) = hh - 1 := by rw [IntKind.wrap_i64]; omega
  have HHX := Lib.hid hhx
  have HD4 := Lib.hid D4
  clear v1 v2 v3 v4 CR3 c0 D4 eh hhx
  obtain ⟨hn, hhn⟩ : ∃ hn, hn = c.held.length := ⟨_, rfl⟩
  rw [← hhn] at hcap2 hlt c1 eh1
  clear hhn
  go_wp2_with (go_at_call 66; refine HO.out.mono ?_)
  first | (rintro e w5 u rfl k1) | (rintro e w5 ⟨⟨u, rfl⟩, k1⟩)
  have K1 := Lib.hid (HoldP.op HD4.out k1)
  have S5 := K1.out.duo.st.at_ _ (List.mem_append_right A (List.mem_cons_self ..))
  have d0 := S5.c0
  have d1 := S5.c1
  have d2 := S5.c2
  obtain ⟨aoc, capc, ecv, _, _⟩ := S5.cform
  have CZ := Lib.hid (zero_vrow s.t.name s.t.rows s.t.cv s.t.cols w5 S5.cols.cols (by have := HP.out.c8; omega))
  dsimp only at d0 d1 d2 ecv
  rw [ecv] at d2 CZ
  have HCV := Lib.hid ecv
  clear k1 S5 HO eh3 c1 ecv hne
  go_wp2_with (go_at_call 71; refine CZ.out.mono ?_)
  first | (rintro e w7 v' rfl v1 v2) | (rintro e w7 ⟨v', rfl, v1, v2⟩)
  have HLEN : Hid ((s.t.cols.map zeroV).length = nn) := by
    have := HNN.out
    show _ = _
    rw [List.length_map]; exact this
  have HV := Lib.hid v1
  have HBOX : Hid (Blk w7 bx 60 [.int .i64 xk, .int .i64 xn, .string xs]) := by
    have b0 := HD.out.box
    rw [HBX.out] at b0
    have b4 : Blk w4 bx 60 [.int .i64 xk, .int .i64 xn, .string xs] := b0.rb (Rb.trans _ _ _ HR3.out HR4.out)
    have b5 : Blk w5 bx 60 [.int .i64 xk, .int .i64 xn, .string xs] := b4.same (K1.out.fr.block _ b4.lt fun hq => by have := HH.out.lt _ hq; rw [HBX.out] at this; omega)
    exact b5.rb v2
  have DUO4 : Hid (DuoN w5 w7 v (A ++ { s with held := s.held + (hh - 1 - c.held.getD A.length 0) } :: B) { c with held := c.held.set A.length (hh - 1) }) := ⟨K1.out.duo, v2⟩
  have HGE : Hid (w5.heap.size ≤ w5.heap.size) := Nat.le_refl _
  clear v1 v2 CZ d0 d1 d2
  -- the cell, then the touch
  obtain ⟨g', cap', cs, ev, hbk, hge, hl1, hl2, hl3, hl4⟩ := VRow.blk HV.out (by rw [HLEN.out]; omega)
  rw [HLEN.out] at ev hl1
  subst ev
  obtain ⟨x0, x1, x2⟩ : w7.cell? ⟨bx, 0, none⟩ = some (.int .i64 xk) ∧ w7.cell? ⟨bx, 1, none⟩ = some (.int .i64 xn) ∧ w7.cell? ⟨bx, 2, none⟩ = some (.string xs) := by
    have hb := HBOX.out
    exact ⟨hb.cell 0, hb.cell 1, hb.cell 2⟩
  have HBK := Lib.hid hbk
  have HX : Hid (w5.heap.size ≤ g' ∧ (s.t.cols.map zeroV).length ≤ cap' ∧ cap' ≤ maxLen ∧ cs.length = cap' * 3 ∧ cs.take ((s.t.cols.map zeroV).length * 3) = flat3 (s.t.cols.map zeroV)) := ⟨hge, by rw [HLEN.out]; exact hl1, hl2, hl3, hl4⟩
  have hm1 : ((j : Int)) < (nn : Int) := by have := HJ.out; omega
  have hfit : j * 3 + 3 ≤ cs.length := by rw [hl3]; have := HJ.out; omega
  have HFIT := Lib.hid hfit
  clear hbk hge hl2 hl3 hl4 hfit
  go_wp2_with (refine wpList_store rfl 60 _ _ rfl g' (j * 3) 60 cs [.int .i64 xk, .int .i64 xn, .string xs] _ rfl rfl HBK.out rfl sizeV HFIT.out (oneV _ _ _) ?_)
  intro w8 hb5 hw5
  have hb5' : Blk w8 g' 60 (cs.take (j * 3) ++ cells3 ⟨xk, xn, xs⟩ ++ cs.drop (j * 3 + 3)) := by simpa [cells3] using hb5
  have hV5 : VRow w8 w5.heap.size (.slice (some ⟨g', 0, none⟩) nn cap') ((s.t.cols.map zeroV).set j ⟨xk, xn, xs⟩) := by
    have := VRow.mk' (l := (s.t.cols.map zeroV).set j ⟨xk, xn, xs⟩) hb5' HX.out.1 (by rw [List.length_set]; exact HX.out.2.1) HX.out.2.2.1 (by rw [List.length_append, List.length_append, List.length_take, List.length_drop]; have := HFIT.out; have := HX.out.2.2.2.1; simp; omega) (by
      rw [List.length_set]
      exact flat3_set ⟨xk, xn, xs⟩ (by rw [HLEN.out]; exact HJ.out) HX.out.2.2.2.2)
    rw [List.length_set, HLEN.out] at this
    exact this
  have DUO5 : Duo w8 v (A ++ { s with held := s.held + (hh - 1 - c.held.getD A.length 0) } :: B) { c with held := c.held.set A.length (hh - 1) } := (DuoN.wrote DUO4.out) hw5 (by have := HX.out.1; have := HGE.out; omega)
  have hy : VIn w8 ⟨some ⟨g', 0, none⟩, nn, cap', (s.t.cols.map zeroV).set j ⟨xk, xn, xs⟩⟩ := ⟨World.ownsRow.mono hV5 (Nat.zero_le _), by show 0 < ((s.t.cols.map zeroV).set j ⟨xk, xn, xs⟩).length; rw [List.length_set, HLEN.out]; have := HJ.out; omega⟩
  have CT := Lib.hid (touch_any w8 v A B { s with held := s.held + (hh - 1 - c.held.getD A.length 0) } { c with held := c.held.set A.length (hh - 1) } k ⟨some ⟨g', 0, none⟩, nn, cap', (s.t.cols.map zeroV).set j ⟨xk, xn, xs⟩⟩ DUO5 hk hA hL (fun _ => hy))
  have HW5 := Lib.hid hw5
  have HD5 := Lib.hid DUO5
  clear hb5 hb5' hw5 hV5 hy DUO5 x0 x1 x2
  go_wp2_with (go_at_call 72; refine CT.out.mono ?_)
  first | (rintro e w9 u rfl s' t1 t2 t3 t4 t5) | (rintro e w9 ⟨⟨u, rfl⟩, s', t1, t2, t3, t4, t5⟩)
  have HT : Hid (s'.b = { s with held := s.held + (hh - 1 - c.held.getD A.length 0) }.b ∧ s'.t = { s with held := s.held + (hh - 1 - c.held.getD A.length 0) }.t ∧ s'.held = { s with held := s.held + (hh - 1 - c.held.getD A.length 0) }.held ∧ s'.L = _ ∧ OpP w8 v (A ++ { s with held := s.held + (hh - 1 - c.held.getD A.length 0) } :: B) { c with held := c.held.set A.length (hh - 1) } w9 _ _) := ⟨t1, t2, t3, t4, t5⟩
  clear t1 t2 t3 t4 t5 CT
  go_wp2
  go_ret
  obtain ⟨t1, t2, t3, t4, t5⟩ := HT.out

  refine ⟨rfl, s', _, rfl, rfl, t1, t2, t4, ?_, ?_⟩
  · rw [t3]
    show s.held + (hh - 1 - c.held.getD A.length 0) = s.held - 1
    rw [← HHX.out]; omega
  · have q1 := OpP.rb (DuoN.rbw DUO4.out HW5.out (by have := HX.out.1; have := HGE.out; omega)) t5
    have q2 := (OpP.rb RW4.out K1.out).trans q1
    rw [← HHX.out]
    simpa [HZ.out] using q2

end Go.Proofs.YtjfpeklfgnajoaaGreat.L6

namespace Go.Proofs.YtjfpeklfgnajoaaGreat.L6
open Go.ChangeShapes Go.WideShapes Go.ChangeAt Go.RowKit By Reg Val
set_option linter.unusedVariables false
set_option linter.unusedSimpArgs false

theorem shut_del (w : World) (b : Nat) (t k : Int) (h : Shut w b) : Calls Tryz.prog 26 #[ptrv b, i64 t, i64 k] w fun e w' => e = .returned (i64 6) ∧ w = w' := by
  have C := Lib.hid (open_shut _ b h)
  clear h
  go_enter Tryz.func26, Tryz.ntmps26
  go_wp2_with (go_at_call 68; refine C.out.mono ?_; rintro e w' ⟨rfl, rfl⟩)
  go_ret
  exact ⟨rfl, rfl⟩

set_option maxRecDepth 100000 in
set_option maxHeartbeats 1000000 in
theorem del_none (w : World) (v : Value) (sh : List Sh) (c : ClD) (t k : Int) (h : Duo w v sh c) (hs : shOf sh t = none) :
    Calls Tryz.prog 26 #[ptrv c.b, i64 t, i64 k] w fun e w' => e = .returned (i64 1) ∧ w = w' := by
  have C := Lib.hid (open_yes _ c h.cl)
  have CS0 := shelf_any _ c.st v sh t h.st
  rw [hs] at CS0
  dsimp only [shPtr] at CS0
  have CS := Lib.hid CS0
  have c0 := h.cl.c0
  clear h hs CS0
  go_enter Tryz.func26, Tryz.ntmps26
  go_wp2_with (first | (go_at_call 68; refine C.out.mono ?_; rintro e w' ⟨rfl, rfl⟩) | (go_at_call 42; refine CS.out.mono ?_; rintro e w' ⟨rfl, rfl⟩))
  go_ret
  exact ⟨rfl, rfl⟩

/-- what Del leaves, where there is a row -/
def DelOk (w : World) (v : Value) (A B : List Sh) (s : Sh) (c : ClD) (k : Int) (w' : World) : Prop :=
  ∃ s', s'.b = s.b ∧ s'.t = s.t ∧ s'.L = delL k s.L ∧ s'.held = s.held + 1 ∧
    OpP w v (A ++ s :: B) c w' (A ++ s' :: B) { c with held := c.held.set A.length (c.held.getD A.length 0 + 1), tch := tchM (A.length, k) ((getL k s.L).getD sv0) c.tch }

set_option maxRecDepth 100000 in
set_option maxHeartbeats 1000000 in
theorem del_any (w : World) (v : Value) (A B : List Sh) (s : Sh) (c : ClD) (k : Int) (h : Duo w v (A ++ s :: B) c) (hp : SmallS s) (hA : A.length ≤ 1000) (hL : s.L.length ≤ 999) (hk : I64 k) (hb : -1000 ≤ c.held.getD A.length 0 ∧ c.held.getD A.length 0 ≤ 100000) :
    Calls Tryz.prog 26 #[ptrv c.b, i64 A.length, i64 k] w fun e w' => (getL k s.L = none → e = .returned (i64 3) ∧ Rb w w') ∧ ((getL k s.L).isSome → e = .returned (i64 0) ∧ DelOk w v A B s c k w') := by
  have hsh : shOf (A ++ s :: B) (A.length : Int) = some s := by unfold shOf; simp
  have C := Lib.hid (open_yes _ c h.cl)
  have CS0 := shelf_any _ c.st v _ A.length h.st
  rw [hsh] at CS0
  dsimp only [shPtr] at CS0
  have CS := Lib.hid CS0
  have c0 := h.cl.c0
  have S := h.st.at_ s (by simp)
  have s3 := S.c3
  have CG := Lib.hid (tget k w s.p s.L s.F S.tree)
  unfold GetPost at CG
  have HD := Lib.hid h
  have HP := Lib.hid hp
  clear h CS0 hsh S
  cases hg : getL k s.L with
  | none =>
    rw [hg] at CG
    dsimp only [Option.getD, Option.isSome] at CG ⊢
    clear hg HD HP
    go_enter Tryz.func26, Tryz.ntmps26
    go_wp2_with (first | (go_at_call 68; refine C.out.mono ?_; rintro e w' ⟨rfl, rfl⟩) | (go_at_call 42; refine CS.out.mono ?_; rintro e w' ⟨rfl, rfl⟩) | (go_at_call 45; refine CG.out.mono ?_; rintro e w' ⟨rfl, hr⟩))
    go_ret
    exact ⟨fun _ => ⟨rfl, hr⟩, fun h => by cases h⟩
  | some z =>
    rw [hg] at CG
    dsimp only [Option.getD, Option.isSome] at CG ⊢
    have HG := Lib.hid hg
    clear hg
    go_enter Tryz.func26, Tryz.ntmps26
    go_wp2_with (first | (go_at_call 68; refine C.out.mono ?_; rintro e w' ⟨rfl, rfl⟩) | (go_at_call 42; refine CS.out.mono ?_; rintro e w' ⟨rfl, rfl⟩) | (go_at_call 45; refine CG.out.mono ?_))
    rintro e w1 ⟨rfl, hr⟩
    have HR := Lib.hid hr
    have CT := Lib.hid (touch_any w1 v A B s c k sv0 (HD.out.rb hr) hk hA hL (fun h => by cases h))
    clear hr CG CS C c0 s3
    go_wp2_with (go_at_call 72; refine CT.out.mono ?_)
    first | (rintro e w6 u rfl s' t1 t2 t3 t4 t5) | (rintro e w6 ⟨⟨u, rfl⟩, s', t1, t2, t3, t4, t5⟩)
    have HT : Hid (s'.b = s.b ∧ s'.t = s.t ∧ s'.held = s.held ∧ s'.L = _ ∧ OpP w1 v (A ++ s :: B) c w6 _ _) := ⟨t1, t2, t3, t4, t5⟩
    have D6 := t5.duo
    have hlt : A.length < c.held.length := by rw [HD.out.len]; simp
    obtain ⟨gh, caph, eh, eh1, eh2, eh3⟩ := D6.cl.rh.int_at (j := A.length) hlt
    have c1 := D6.cl.c1
    dsimp only at eh eh1 eh2 eh3 c1
    rw [eh] at c1
    have hcap2 : A.length < c.held.length := hlt
    have HO := Lib.hid (hold_any w6 v A B s' _ (c.held.getD A.length 0 + 1) D6.st D6.cl D6.len hA D6.ap (by omega) (by rw [t3]; have := HP.out.h0; have := HP.out.h1; omega) (by dsimp only; omega))
    have HK : Hid (∀ w7, HoldP w6 v A B s' _ (c.held.getD A.length 0 + 1) w7 → _) := fun w7 k => HoldP.op D6 k
    have hw1 : IntKind.i64.wrap (c.held.getD A.length 0 + 1) = c.held.getD A.length 0 + 1 := by rw [IntKind.wrap_i64]; omega
    clear t1 t2 t3 t4 t5 CT D6 eh
    obtain ⟨hh, hhx⟩ : ∃ hh, hh = c.held.getD A.length 0 := ⟨_, rfl⟩
    rw [← hhx] at eh3 hb hw1
    have HHX := Lib.hid hhx
    obtain ⟨hn, hhn⟩ : ∃ hn, hn = c.held.length := ⟨_, rfl⟩
    rw [← hhn] at hcap2 hlt c1 eh1
    have HO2 := Lib.hid (HO.out)
    clear hhn
    rw [← hhx] at HO2 HK
    clear hhx HO
    go_wp2_with (go_at_call 66; refine HO2.out.mono ?_)
    first | (rintro e w5 u rfl k1) | (rintro e w5 ⟨⟨u, rfl⟩, k1⟩)
    have K1 := Lib.hid (HK.out _ k1)
    clear k1 eh3 c1
    go_wp2
    go_ret
    refine ⟨(fun h => by cases h), fun _ => ⟨rfl, ?_⟩⟩
    obtain ⟨t1, t2, t3, t4, t5⟩ := HT.out
    refine ⟨{ s' with held := s'.held + (hh + 1 - hh) }, t1, t2, t4, ?_, ?_⟩
    · show s'.held + (hh + 1 - hh) = _
      rw [t3]; omega
    · have q := (OpP.rb HR.out t5).trans K1.out
      rw [← HHX.out]
      exact q
end Go.Proofs.YtjfpeklfgnajoaaGreat.L6
