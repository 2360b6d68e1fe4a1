/-
  Layer 7: U1, U2, U3a, U3, U4, U5, U6, U7, U8, U9, U10, U11, U12, U13, U14, put together.
-/
import Derived.Test.YtjfpeklfgnajoaaGreatL6b
import Derived.WalkKit
import Derived.ProofKit
import Derived.Outline
import Derived.Lib.Hide
import Derived.LoopTactic
import Derived.WalkSpells
import Derived.WalkLawsBesides
import Derived.Laws.CopyOwn
import Derived.Laws.Tables
import Derived.Deep.OwnRows
import Derived.Deep.Onto
import Derived.ArgAppend
import Derived.Laws.AppendOwnNone
import Derived.Deep.LoopGhost
import Derived.Deep.Draws
import Derived.Lib.Walk
import Derived.Lib.SliceRun
import Derived.Lib.AppendZerosOnto
import Derived.Deep.RegionLaw
import Derived.Laws.IdiomCopy
import Derived.Lib.Overlaps
import Derived.Shelf.Spec.SlicesInsert
import Derived.BigQuiet
import Derived.Deep.CutRange
namespace Go.Proofs.YtjfpeklfgnajoaaGreat.L6
open Go.ChangeShapes Go.WideShapes Go.ChangeAt Go.RowKit By Reg
set_option linter.unusedVariables false

/-! ### rows -/
/-- a slice that owns its block, and what it reads as -/
def Row (w : World) (e : TypeId) (v : Value) (xs : List Value) : Prop := w.ownsRow 0 e 1 v xs.length xs

/-- a slice that reads as xs -/
def Sl (w : World) (v : Value) (xs : List Value) : Prop :=
  ∃ (ao : Option Addr) (cap : Nat), v = .slice ao xs.length cap ∧ xs.length ≤ cap ∧ cap ≤ maxLen ∧ (ao = none → cap = 0) ∧ ∀ ad, ao = some ad → ∀ j u, xs[j]? = some u → w.cell? (ad.add j) = some u

theorem Sl.rb {w w' : World} {v : Value} {xs : List Value} (h : Sl w v xs) (hb : Rb w w') : Sl w' v xs := by
  obtain ⟨ao, cap, h1, h2, h3, h4, h5⟩ := h
  refine ⟨ao, cap, h1, h2, h3, h4, fun ad ha j u hu => ?_⟩
  have h := h5 ad ha j u hu
  rw [Below.cell hb (World.block_lt_of_cell? w _ h)]
  exact h

namespace Row
variable {w w' : World} {e : TypeId} {v : Value} {xs : List Value}
theorem same (h : Row w e v xs) (hb : ∀ k, v.ownBlock = some k → w'.heap[k]? = w.heap[k]?) : Row w' e v xs := owns_same h hb
theorem lt (h : Row w e v xs) : ∀ k, v.ownBlock = some k → k < w.heap.size := fun k hk => (World.ownsRow.lt h k hk).2
theorem rb (h : Row w e v xs) (hb : Rb w w') : Row w' e v xs := h.same fun k hk => hb.block k (h.lt k hk)
theorem fr {F : Nat → Prop} (h : Row w e v xs) (hf : Fr F w w') (ho : ∀ k, v.ownBlock = some k → ¬ F k) : Row w' e v xs := h.same fun k hk => hf.block k (h.lt k hk) (ho k hk)
theorem nil (w : World) (e : TypeId) : Row w e (.slice none 0 0) [] := World.ownsRow_nil w 0 e 1
theorem cases' (h : Row w e v xs) : (v = .slice none 0 0 ∧ xs = []) ∨ ∃ g rest, v = .slice (some ⟨g, 0, none⟩) xs.length (xs.length + rest.length) ∧ Blk w g e (xs ++ rest) ∧ xs.length + rest.length ≤ maxLen := by
  obtain ⟨_, h⟩ := h
  rcases h with ⟨h1, h2⟩ | ⟨g, cap, cur, h1, h2, h3, h4, h5, h6, h7⟩
  · exact .inl ⟨h1, List.eq_nil_of_length_eq_zero h2⟩
  · have hc : cur.toList.length = cap := by rw [Array.length_toList, h6, Nat.mul_one]
    have hl : xs.length + (cur.toList.drop xs.length).length = cap := by
      rw [List.length_drop, hc]; omega
    refine .inr ⟨g, cur.toList.drop xs.length, by rw [hl]; exact h1, ?_, by rw [hl]; exact h5⟩
    unfold Blk
    rw [h3]
    have : xs ++ cur.toList.drop xs.length = cur.toList := by
      rw [Nat.mul_one] at h7
      conv => lhs; arg 1; rw [← h7]
      exact List.take_append_drop _ _
    rw [this]
theorem mk' {g : Nat} {rest : List Value} (hb : Blk w g e (xs ++ rest)) (hm : xs.length + rest.length ≤ maxLen) : Row w e (.slice (some ⟨g, 0, none⟩) xs.length (xs.length + rest.length)) xs :=
  ⟨by simp, .inr ⟨g, _, _, rfl, Nat.zero_le _, hb, by omega, hm, by simp, by simp⟩⟩
theorem sl (h : Row w e v xs) : Sl w v xs := by
  rcases h.cases' with ⟨rfl, rfl⟩ | ⟨g, rest, rfl, h2, h3⟩
  · exact ⟨none, 0, rfl, Nat.le_refl _, Nat.zero_le _, fun _ => rfl, fun _ h => by cases h⟩
  · refine ⟨_, _, rfl, by omega, h3, (fun h => by cases h), fun ad ha j u hu => ?_⟩
    cases ha
    rw [Addr.add_lit, Nat.zero_add, h2.cell]
    have hj := (List.getElem?_eq_some_iff.1 hu).1
    rw [List.getElem?_append_left hj]
    exact hu
theorem len (h : Row w e v xs) : xs.length ≤ maxLen := by
  rcases h.cases' with ⟨rfl, rfl⟩ | ⟨g, rest, rfl, h2, h3⟩
  · exact Nat.zero_le _
  · omega
theorem form (h : Row w e v xs) : ∃ ao cap, v = .slice ao xs.length cap ∧ xs.length ≤ cap ∧ cap ≤ maxLen := by
  obtain ⟨ao, cap, h1, h2, h3, _⟩ := h.sl
  exact ⟨ao, cap, h1, h2, h3⟩
theorem one (h : Row w e v xs) : v.oneCell' = true ∧ v.cells = #[v] := by
  obtain ⟨ao, cap, rfl, _⟩ := h.form
  exact ⟨rfl, rfl⟩
/-- a type tells which block it is not -/
theorem not_blk {T : TypeId} {N : Nat} {cs : List Value} (h : Row w e v xs) (hb : Blk w N T cs) (hT : T ≠ e) : v.ownBlock ≠ some N := by
  rcases h.cases' with ⟨rfl, rfl⟩ | ⟨g, rest, rfl, h2, h3⟩
  · intro h; cases h
  · intro h
    simp only [Value.ownBlock, Option.some.injEq] at h
    subst h
    exact hT (hb.inj h2).1
theorem typ (h : Row w e v xs) : ∀ k, v.ownBlock = some k → ∃ cs, Blk w k e cs := by
  rcases h.cases' with ⟨rfl, rfl⟩ | ⟨g, rest, rfl, h2, h3⟩
  · intro k h; cases h
  · intro k h
    simp only [Value.ownBlock, Option.some.injEq] at h
    subst h
    exact ⟨_, h2⟩
end Row

/-- a slice's own words, and the row that it reads as (the latter is the proof's own) -/
structure SV where
  ao : Option Addr
  n : Nat
  c : Nat
  row : List ValD
abbrev sv0 : SV := ⟨none, 0, 0, []⟩
instance : Inhabited SV := ⟨sv0⟩
abbrev sv (y : SV) : Value := .slice y.ao y.n y.c
abbrev i64 (n : Int) : Value := .int .i64 n
abbrev ptrv (b : Nat) : Value := .pointer (some ⟨b, 0, none⟩)
/-- the row's block is the one that it was, or a new one -/
def NewRow (w : World) (v v' : Value) : Prop := ∀ k, v'.ownBlock = some k → v.ownBlock = some k ∨ w.heap.size ≤ k
end Go.Proofs.YtjfpeklfgnajoaaGreat.L6

namespace Go.Proofs.YtjfpeklfgnajoaaGreat.L6
open Go.ChangeShapes Go.WideShapes Go.ChangeAt Go.RowKit By Reg
set_option linter.unusedVariables false

/-- p is where x is in ks, or would be -/
structure Pos (x : Int) (ks : List Int) (p : Nat) : Prop where
  le : p ≤ ks.length
  lo : ∀ j, j < p → ks.getD j 0 < x
  hi : ∀ j, p ≤ j → j < ks.length → x ≤ ks.getD j 0

def found (x : Int) (ks : List Int) (p : Nat) : Bool := decide (ks[p]? = some x)

theorem isnan1 (x : Int) (w : World) : Calls Tryz.prog 127 #[i64 x] w fun e w' => e = .returned (.bool false) ∧ w = w' := by
  go_enter Tryz.func127, Tryz.ntmps127
  go_wp2
  go_ret
  exact ⟨by simp, rfl⟩
theorem isnan2 (x : Int) (w : World) : Calls Tryz.prog 141 #[i64 x] w fun e w' => e = .returned (.bool false) ∧ w = w' := by
  go_enter Tryz.func141, Tryz.ntmps141
  go_wp2
  go_ret
  exact ⟨by simp, rfl⟩
theorem less_any (x y : Int) (w : World) : Calls Tryz.prog 140 #[i64 x, i64 y] w fun e w' => e = .returned (.bool (decide (x < y))) ∧ w = w' := by
  go_enter Tryz.func140, Tryz.ntmps140
  go_wp2_with (go_at_call 127; refine (isnan1 _ _).mono ?_; rintro e w' ⟨rfl, rfl⟩)
  go_ret
  exact ⟨rfl, rfl⟩

set_option maxHeartbeats 4000000 in
set_option maxRecDepth 1000000 in
theorem search_any (w : World) (v : Value) (ks : List Int) (x : Int) (h : Row w 2 v (ks.map i64)) (hbig : ks.length ≤ 1000000) (hs : ks.Pairwise (· < ·)) :
    Calls Tryz.prog 115 #[v, i64 x] w fun e w' => ∃ p : Nat, e = .returned (.tuple #[i64 p, .bool (found x ks p)]) ∧ Pos x ks p ∧ Rb w w' := by
  have S : Aside (∀ a b, a ≤ b → b < ks.length → ks.getD a 0 ≤ ks.getD b 0) := fun a b hab hb => by
    rcases Nat.eq_or_lt_of_le hab with rfl | hl
    · exact Int.le_refl _
    · have := List.pairwise_iff_getElem.1 hs a b (by omega) hb hl
      simp only [List.getD_eq_getElem?_getD, List.getElem?_eq_getElem hb, List.getElem?_eq_getElem (show a < ks.length by omega), Option.getD_some]
      omega
  obtain ⟨n, hn⟩ : ∃ n, n = ks.length := ⟨_, rfl⟩
  obtain ⟨ao, cap, rfl, hc⟩ : ∃ ao cap, v = .slice ao n cap ∧ Hid (n = 0 ∨ ∃ g, ao = some ⟨g, 0, none⟩ ∧ n ≤ cap ∧ ∀ j, j < n → w.cell? ⟨g, j, none⟩ = some (i64 (ks.getD j 0))) := by
    rcases h.cases' with ⟨rfl, hx⟩ | ⟨g, rest, rfl, h2, h3⟩
    · have : ks = [] := by simpa using hx
      subst this
      exact ⟨none, 0, by rw [hn]; rfl, .inl (by rw [hn]; rfl)⟩
    · refine ⟨_, _, by rw [hn, ← List.length_map (f := i64)], .inr ⟨g, rfl, by rw [hn, List.length_map]; omega, fun j hj => ?_⟩⟩
      rw [h2.cell, List.getElem?_append_left (by rw [List.length_map]; omega), List.getElem?_map, List.getD_eq_getElem?_getD, List.getElem?_eq_getElem (by omega)]
      rfl
  rw [← hn] at hbig S
  have HN := Lib.hid hn
  clear h hs hn
  go_enter Tryz.func115, Tryz.ntmps115
  go_wp2
  go_loopg [7, 8] n (fun g s7 s8 wr => ∃ lo hi q : Nat, s7 = .int .i64 lo ∧ s8 = .int .i64 hi ∧ lo ≤ hi ∧ hi ≤ n ∧ hi - lo ≤ g ∧ wr = w.drewN q ∧ (∀ t, t < lo → ks.getD t 0 < x) ∧ (∀ t, hi ≤ t → t < n → x ≤ ks.getD t 0))
  case atStart => exact ⟨0, n, 0, rfl, rfl, Nat.zero_le _, Nat.le_refl _, by omega, rfl, fun t ht => absurd ht (Nat.not_lt_zero _), fun t h1 h2 => by omega⟩
  case round =>
    obtain ⟨lo, hi, q, rfl, rfl, hlh, hin, hg, rfl, h1, h2⟩ := hrel
    have I : Aside ((∀ t, t < lo → ks.getD t 0 < x) ∧ (∀ t, hi ≤ t → t < n → x ≤ ks.getD t 0)) := ⟨h1, h2⟩
    clear h1 h2
    by_cases hlt : lo < hi
    · obtain ⟨g, rfl, hnc, hcc⟩ := hc.out.resolve_left (by omega)
      have cm : w.cell? ⟨g, (lo + hi) / 2, none⟩ = some (.int .i64 (ks.getD ((lo + hi) / 2) 0)) := hcc _ (by omega)
      clear hcc
      generalize hy : ks.getD ((lo + hi) / 2) 0 = y at cm
      have Y : Aside (ks.getD ((lo + hi) / 2) 0 = y) := hy
      clear hy
      by_cases hyx : y < x
      · go_wp2_with (go_at_call 140; refine (less_any _ _ _).mono ?_; rintro e w' ⟨rfl, rfl⟩)
        go_roundg (hi - ((lo + hi) / 2 + 1))
        case measure => omega
        case rel =>
          refine ⟨(lo + hi) / 2 + 1, hi, _, by rw [show ((lo : Int) + (hi : Int)) / 2 + 1 = (((lo + hi) / 2 + 1 : Nat) : Int) by omega], rfl, by omega, hin, Nat.le_refl _, rfl, fun t ht => ?_, I.out.2⟩
          have := S.out t ((lo + hi) / 2) (by omega) (by omega)
          rw [Y.out] at this
          omega
      · go_wp2_with (go_at_call 140; refine (less_any _ _ _).mono ?_; rintro e w' ⟨rfl, rfl⟩)
        go_roundg ((lo + hi) / 2 - lo)
        case measure => omega
        case rel =>
          refine ⟨lo, (lo + hi) / 2, _, rfl, by rw [show ((lo : Int) + (hi : Int)) / 2 = (((lo + hi) / 2 : Nat) : Int) by omega], by omega, by omega, Nat.le_refl _, rfl, I.out.1, fun t ht htn => ?_⟩
          have := S.out ((lo + hi) / 2) t ht htn
          rw [Y.out] at this
          omega
    · have : hi = lo := by omega
      subst this
      have hpos : Pos x ks hi := ⟨by rw [← HN.out]; exact hin, I.out.1, fun j h1 h2 => I.out.2 j h1 (by rw [HN.out]; exact h2)⟩
      have PO := Lib.hid hpos
      clear hpos
      have hrb : Rb w (w.drewN q) := ⟨rfl, rfl, rfl, Nat.le_refl _, fun _ _ => rfl⟩
      have RBB := Lib.hid hrb
      clear hrb
      by_cases hn : hi < n
      · obtain ⟨g, rfl, hnc, hcc⟩ := hc.out.resolve_left (by omega)
        have cl : w.cell? ⟨g, hi, none⟩ = some (.int .i64 (ks.getD hi 0)) := hcc _ (by omega)
        clear hcc
        have F : Aside (ks[hi]? = some (ks.getD hi 0)) := by
          rw [List.getD_eq_getElem?_getD, List.getElem?_eq_getElem (by rw [← HN.out]; exact hn)]; rfl
        generalize ks.getD hi 0 = y at cl F
        by_cases hyx : y = x
        · go_wp2_with (go_at_call 141; refine (isnan2 _ _).mono ?_; rintro e w' ⟨rfl, rfl⟩)
          go_ret2
          refine ⟨hi, ?_, PO.out, ?_⟩
          · rw [show found x ks hi = true by unfold found; rw [F.out, hyx]; simp]
            first | rfl | simp [*]
          · exact ⟨rfl, rfl, rfl, Nat.le_refl _, fun _ _ => rfl⟩
        · go_wp2_with (go_at_call 141; refine (isnan2 _ _).mono ?_; rintro e w' ⟨rfl, rfl⟩)
          go_ret2
          refine ⟨hi, ?_, PO.out, ?_⟩
          · rw [show found x ks hi = false by unfold found; rw [F.out]; simp [hyx]]
            first | rfl | simp [*]
          · exact ⟨rfl, rfl, rfl, Nat.le_refl _, fun _ _ => rfl⟩
      · go_wp2_with (go_at_call 141; refine (isnan2 _ _).mono ?_; rintro e w' ⟨rfl, rfl⟩)
        go_ret2
        refine ⟨hi, ?_, PO.out, ?_⟩
        · rw [show found x ks hi = false by unfold found; rw [List.getElem?_eq_none (by rw [← HN.out]; omega)]; simp]
          first | rfl | simp [*]
        · exact ⟨rfl, rfl, rfl, Nat.le_refl _, fun _ _ => rfl⟩
theorem Pos.unique {x : Int} {ks : List Int} {p q : Nat} (h : Pos x ks p) (k : Pos x ks q) : p = q := by
  rcases Nat.lt_trichotomy p q with hl | rfl | hl
  · have a := k.lo p hl
    have b := h.hi p (Nat.le_refl _) (by have := k.le; omega)
    omega
  · rfl
  · have a := h.lo q hl
    have b := k.hi q (Nat.le_refl _) (by have := h.le; omega)
    omega

theorem Pos.exists (x : Int) : ∀ ks : List Int, ks.Pairwise (· < ·) → ∃ p, Pos x ks p
  | [], _ => ⟨0, Nat.le_refl _, fun j hj => absurd hj (Nat.not_lt_zero _), fun j _ hj => absurd hj (Nat.not_lt_zero _)⟩
  | k :: ks, h => by
    rw [List.pairwise_cons] at h
    by_cases hk : k < x
    · obtain ⟨p, hp⟩ := Pos.exists x ks h.2
      refine ⟨p + 1, by have := hp.le; simp; omega, fun j hj => ?_, fun j h1 h2 => ?_⟩
      · cases j with
        | zero => simpa using hk
        | succ j => simpa using hp.lo j (by omega)
      · cases j with
        | zero => omega
        | succ j => simpa using hp.hi j (by omega) (by simpa using h2)
    · refine ⟨0, Nat.zero_le _, fun j hj => absurd hj (Nat.not_lt_zero _), fun j _ h2 => ?_⟩
      cases j with
      | zero => simpa using Int.not_lt.1 hk
      | succ j =>
        have hj : j < ks.length := by simpa using h2
        have := h.1 ks[j] (List.getElem_mem hj)
        rw [show (k :: ks).getD (j + 1) 0 = ks[j] by simp [List.getD_eq_getElem?_getD, hj]]
        omega

theorem search_at (w : World) (v : Value) (ks : List Int) (x : Int) (p : Nat) (h : Row w 2 v (ks.map i64)) (hbig : ks.length ≤ 1000000) (hs : ks.Pairwise (· < ·)) (hp : Pos x ks p) :
    Calls Tryz.prog 115 #[v, i64 x] w fun e w' => e = .returned (.tuple #[i64 p, .bool (found x ks p)]) ∧ Rb w w' := by
  refine (search_any w v ks x h hbig hs).mono ?_
  rintro e w' ⟨q, rfl, h1, h2⟩
  obtain rfl := h1.unique hp
  exact ⟨rfl, h2⟩

end Go.Proofs.YtjfpeklfgnajoaaGreat.L6

namespace Go.Proofs.YtjfpeklfgnajoaaGreat.L6
open Go.ChangeShapes Go.WideShapes Go.ChangeAt Go.RowKit By Reg
set_option linter.unusedVariables false
set_option linter.unusedSimpArgs false

/-! ### blocks known whole: copy, append in place, clear -/
theorem splice_eq {α : Type} (cs : List α) (off : Nat) (vs : List α) : splice cs off vs = cs.take off ++ (vs ++ cs.drop (off + vs.length)) := rfl

theorem blk_setCells (N : Nat) (T : TypeId) : ∀ (vs : List Value) (off : Nat) (w : World) (cs : List Value), Blk w N T cs → off + vs.length ≤ cs.length → Blk (w.setCells N off vs) N T (splice cs off vs) ∧ Wrote N w (w.setCells N off vs)
  | [], off, w, cs, h, hl => ⟨by rw [splice_eq]; simpa [World.setCells] using h, ⟨rfl, rfl, rfl, rfl, fun _ _ => rfl⟩⟩
  | v :: r, off, w, cs, h, hl => by
    simp only [List.length_cons] at hl
    have h1 : Blk (w.setCell ⟨N, off, none⟩ v) N T (cs.set off v) := by
      unfold Blk at h ⊢
      have hlt : N < w.heap.size := (Array.getElem?_eq_some_iff.1 h).1
      have hv := (Array.getElem?_eq_some_iff.1 h).2
      simp only [World.setCell]
      rw [Array.getElem?_eq_getElem (by simpa using hlt), Array.getElem_modify]
      simp [hv]
    have h2 : Wrote N w (w.setCell ⟨N, off, none⟩ v) := ⟨rfl, rfl, rfl, by simp [World.setCell], fun k hk => Below.heap_setCell _ _ _ _ (by simpa using hk)⟩
    obtain ⟨a, b⟩ := blk_setCells N T r (off + 1) _ _ h1 (by rw [List.length_set]; omega)
    refine ⟨?_, h2.trans b⟩
    have e : splice (cs.set off v) (off + 1) r = splice cs off (v :: r) := by
      obtain ⟨A, c, B, rfl, rfl⟩ : ∃ A c B, cs = A ++ c :: B ∧ A.length = off := ⟨cs.take off, cs[off]'(by omega), cs.drop (off + 1), by simp, by simp; omega⟩
      rw [splice_eq, splice_eq]
      simp [List.set_append_right, List.take_append, List.drop_append]
      rw [List.take_of_length_le (by omega), List.drop_eq_nil_of_le (by omega : A.length ≤ A.length + 1 + r.length), List.drop_eq_nil_of_le (by omega : A.length ≤ A.length + (r.length + 1))]
      simp
      rw [show A.length + 1 + r.length - A.length = r.length + 1 by omega]
      rfl
    rw [← e]
    exact a

section
variable {P : Program} {w : World}
/-- copy into a block known whole -/
theorem run_copy_blk {N off : Nat} {T t e : TypeId} {cs news : List Value} (hb : Blk w N T cs) (hu : P.underlying t = some (.slice e)) (hs : (P.info? e).map (·.size) = some 1)
    (dLen dCap sLen sCap : Nat) (ad : Addr) (hn : news.length = Nat.min sLen dLen) (hsrc : ∀ j v, news[j]? = some v → w.cell? (ad.add j) = some v) (hfit : off + news.length ≤ cs.length) (h1 : ∀ v ∈ news, v.oneCell' = true) :
    ∃ w', (∀ ty, (Builtin.copy_ #[t, t] ty #[.slice (some ⟨N, off, none⟩) dLen dCap, .slice (some ad) sLen sCap]).run P w = .ok (goInt news.length) w') ∧ Blk w' N T (splice cs off news) ∧ Wrote N w w' := by
  obtain ⟨h2, h3⟩ := blk_setCells N T news off w cs hb hfit
  refine ⟨_, fun ty => run_copy_cells w t t ty e N off dLen dCap ad sLen sCap news hu hs hn hsrc (fun j hj => ?_) (fun j hj => hb.frozen _) h1, h2, h3⟩
  rw [hb.cell, List.getElem?_eq_getElem (by omega)]; rfl

/-- append in place, into a block known whole -/
theorem run_append_blk {N off n cap : Nat} {T t e : TypeId} {i : TypeInfo} {cs news : List Value} (hb : Blk w N T cs) (hu : P.underlying t = some (.slice e)) (hi : P.info? e = some i) (hs : i.size = 1)
    (ad : Addr) (m c : Nat) (hn : news.length = m) (hsrc : ∀ j v, news[j]? = some v → w.cell? (ad.add j) = some v) (hroom : n + m ≤ cap) (hfit : off + n + news.length ≤ cs.length) (h1 : ∀ v ∈ news, v.oneCell' = true) :
    ∃ w', (∀ ty, (Builtin.append_ #[t, t] ty #[.slice (some ⟨N, off, none⟩) n cap, .slice (some ad) m c]).run P w = .ok (.slice (some ⟨N, off, none⟩) (n + m) cap) w') ∧ Blk w' N T (splice cs (off + n) news) ∧ Wrote N w w' := by
  obtain ⟨h2, h3⟩ := blk_setCells N T news (off + n) w cs hb hfit
  have e1 : off + n * i.size = off + n := by rw [hs, Nat.mul_one]
  refine ⟨_, fun ty => ?_, h2, h3⟩
  rw [← e1]
  exact run_append_room_cells w t ty e i hu hi N off n cap ad m c news (by rw [hs, Nat.mul_one]; exact hn) hsrc h1 hroom (fun j hj => by rw [e1, hb.cell, List.getElem?_eq_getElem (by omega)]; rfl) (fun j hj => hb.frozen _)

theorem Wrote.below {N B : Nat} {a b c : World} (h : Below B a b) (k : Wrote N b c) (hN : B ≤ N) : Below B a c :=
  h.trans ⟨k.os, k.tape, k.output, by rw [k.size]; exact Nat.le_refl _, fun i hi => k.block i (by omega)⟩

/-- clear of a part of a block known whole -/
theorem run_clear_blk {N off n c : Nat} {T t e : TypeId} {z : Value} {cs : List Value} (hb : Blk w N T cs) (hu : P.underlying t = some (.slice e)) (hv : ∀ w, (zeroValue e).run P w = .ok z w) (hz : z.cells = #[z]) (h1 : z.oneCell' = true) (hn : 0 < n) (hfit : off + n ≤ cs.length) :
    ∃ w', (∀ ty, (Builtin.clear_ #[t] ty #[.slice (some ⟨N, off, none⟩) n c]).run P w = .ok (.tuple #[]) w') ∧ Blk w' N T (splice cs off (List.replicate n z)) ∧ Wrote N w w' := by
  obtain ⟨h2, h3⟩ := blk_setCells N T (List.replicate n z) off w cs hb (by simpa using hfit)
  exact ⟨_, fun ty => Lib.run_clear_slice w t e ty z hu hv hz h1 N off n c hn (fun j hj => by rw [hb.cell, List.getElem?_eq_getElem (by omega)]; rfl) (fun j hj => hb.frozen _), h2, h3⟩

/-- append to a row, and where the row lies then -/
theorem run_append_row {t e : TypeId} {i : TypeInfo} {z : Value} {b : Nat} (ht : P.underlying t = some (.slice e)) (hi : P.info? e = some i) (hz : i.zero = some z) (hsize : i.size = 1) (hby : i.bytes = b) (hb : b ≤ 24) (hzc : z.cells.size = 1)
    {v v2 : Value} {xs ys : List Value} (hr : Row w e v xs) (hs : Sl w v2 ys) (h1 : ∀ u ∈ ys, u.oneCell' = true) (h63 : xs.length + ys.length ≤ 100000000) :
    ∃ v' w', (∀ ty, (Builtin.append_ #[t, t] ty #[v, v2]).run P w = .ok v' w') ∧ Row w' e v' (xs ++ ys) ∧ w.grownBy w' v.ownBlock ∧ NewRow w v v' := by
  have hrow : w.ownsRow 0 e 1 v xs.length xs := hr
  obtain ⟨ao, cap, rfl, e2, e3, e4, e5⟩ := hs
  cases ao with
  | none =>
    have hc := e4 rfl
    have h0 : ys = [] := List.eq_nil_of_length_eq_zero (by omega)
    subst h0
    subst hc
    refine ⟨v, w, fun ty => run_append_owned_none (P := P) (w := w) 0 t ty e i 1 ht hi v _ xs hrow, ?_, ⟨rfl, rfl, rfl, Nat.le_refl _, fun _ _ _ => rfl⟩, fun k hk => .inl hk⟩
    rw [List.append_nil]
    exact hr
  | some ad =>
    have hm : xs.length + ys.length ≤ maxLen := by unfold maxLen; omega
    have hbt : (xs.length + ys.length) * b ≤ 140737488355328 := by
      have := Nat.mul_le_mul h63 hb
      omega
    obtain ⟨v', w', hrun, h2, h3, h4⟩ := run_append_own (P := P) w 0 t t e i z 1 b ht hi hz hsize hby hzc (by decide) v xs.length xs hrow ad ys.length cap ys (by omega) (e5 ad rfl) h1 hm hbt (Nat.zero_le _)
    have hall : ∀ ty, (Builtin.append_ #[t, t] ty #[v, .slice (some ad) ys.length cap]).run P w = .ok v' w' := fun ty => hrun
    refine ⟨v', w', hall, ?_, h3, ?_⟩
    · unfold Row
      rw [List.length_append]
      exact h2
    · rcases hrow.2 with ⟨rfl, h0⟩ | ⟨g, cp, cur, rfl, hbg, hg, hnc, hcm, hcs, htake⟩
      · have hx : xs = [] := List.eq_nil_of_length_eq_zero h0
        subst hx
        obtain ⟨u2, w2, hr2, k2, _, _⟩ := run_append_own (P := P) w w.heap.size t t e i z 1 b ht hi hz hsize hby hzc (by decide) _ _ _ (World.ownsRow_nil w _ e 1) ad ys.length cap ys (by omega) (e5 ad rfl) h1 hm hbt (Nat.le_refl _)
        have hrun' : (Builtin.append_ #[t, t] t #[.slice none 0 0, .slice (some ad) ys.length cap]).run P w = .ok v' w' := hrun
        rw [hrun'] at hr2
        cases hr2
        intro k hk
        exact .inr (k2.lt k hk).1
      · by_cases hroom : xs.length + ys.length ≤ cp
        · have hr2 := run_append_room (P := P) w t t e i ht hi g xs.length cp cur hg ad ys.length cap ys (by rw [hsize]; omega) (e5 ad rfl) h1 hroom (by rw [hsize, hcs]; omega)
          rw [hrun] at hr2
          cases hr2
          intro k hk
          exact .inl hk
        · have holds : ∀ j u, xs[j]? = some u → w.cell? ((⟨g, 0, none⟩ : Addr).add j) = some u := World.ownsRow.cells hrow (g := g) rfl
          obtain ⟨u2, w2, hr2, k2, _⟩ := run_append_arg_grows (P := P) w t t e i z 1 b ht hi hz hsize hby hzc (by decide) ⟨g, 0, none⟩ xs.length cp xs hrow.1 holds ad ys.length cap ys (by omega) (e5 ad rfl) (by omega) hm hbt
          rw [hrun] at hr2
          cases hr2
          intro k hk
          exact .inr (k2.lt k hk).1

/-- what a list operation on a row leaves: a row of the same block or a new one; all else is as it was -/
structure Re (w : World) (e : TypeId) (v : Value) (xs' : List Value) (v' : Value) (w' : World) : Prop where
  row : Row w' e v' xs'
  fr : Fr (fun k => v.ownBlock = some k) w w'
  new : NewRow w v v'

variable {ops : Array Oper} {rest : List Oper} {o : Oper} {a : Act} {Q : Exit → Act → World → Prop}
theorem wpList_run_append {s x : Operand} {t t2 : TypeId} (hg : o.guard = none) (hop : o.op = Op.call { callee := Callee.builtin Builtin.append, args := #[s, x], argTypes := #[t, t2] })
    {v1 v2 v' : Value} {w' : World} (hs : a.eval s = v1) (hx : a.eval x = v2) (hr : (Builtin.append_ #[t, t2] o.type #[v1, v2]).run P w = .ok v' w') (h : wpList P ops Q rest (a.put o.dst v') w') : wpList P ops Q (o :: rest) a w := by
  refine wpList_plain hg fun K hK' => ?_
  unfold Oper.wp
  simp [execOp, hop, resolve, invoke, builtin, hs, hx, hr, Result.andThen]
  exact hK' _ _ h
theorem wpList_run_copy {s x : Operand} {t t2 : TypeId} (hg : o.guard = none) (hop : o.op = Op.call { callee := Callee.builtin Builtin.copy, args := #[s, x], argTypes := #[t, t2] })
    {v1 v2 v' : Value} {w' : World} (hs : a.eval s = v1) (hx : a.eval x = v2) (hr : (Builtin.copy_ #[t, t2] o.type #[v1, v2]).run P w = .ok v' w') (h : wpList P ops Q rest (a.put o.dst v') w') : wpList P ops Q (o :: rest) a w := by
  refine wpList_plain hg fun K hK' => ?_
  unfold Oper.wp
  simp [execOp, hop, resolve, invoke, builtin, hs, hx, hr, Result.andThen]
  exact hK' _ _ h
theorem wpList_run_clear {s : Operand} {t : TypeId} (hg : o.guard = none) (hop : o.op = Op.call { callee := Callee.builtin Builtin.clear, args := #[s], argTypes := #[t] })
    {v1 v' : Value} {w' : World} (hs : a.eval s = v1) (hr : (Builtin.clear_ #[t] o.type #[v1]).run P w = .ok v' w') (h : wpList P ops Q rest (a.put o.dst v') w') : wpList P ops Q (o :: rest) a w := by
  refine wpList_plain hg fun K hK' => ?_
  unfold Oper.wp
  simp [execOp, hop, resolve, invoke, builtin, hs, hr, Result.andThen]
  exact hK' _ _ h
theorem step_run_append {K : Act → World → Prop} {E : Prop} {s x : Operand} {t t2 : TypeId} (hg : o.guard = none) (hop : o.op = Op.call { callee := Callee.builtin Builtin.append, args := #[s, x], argTypes := #[t, t2] })
    {v1 v2 v' : Value} {w' : World} (hs : a.eval s = v1) (hx : a.eval x = v2) (hr : (Builtin.append_ #[t, t2] o.type #[v1, v2]).run P w = .ok v' w') (h : K (a.put o.dst v') w') : if Region.wanted o (yielded ops a.tmps) = true then Oper.wp P o a w K Q else E := by
  rw [if_pos (by simp [Region.wanted, hg])]
  unfold Oper.wp
  simp [execOp, hop, resolve, invoke, builtin, hs, hx, hr, Result.andThen]
  exact h
theorem step_run_copy {K : Act → World → Prop} {E : Prop} {s x : Operand} {t t2 : TypeId} (hg : o.guard = none) (hop : o.op = Op.call { callee := Callee.builtin Builtin.copy, args := #[s, x], argTypes := #[t, t2] })
    {v1 v2 v' : Value} {w' : World} (hs : a.eval s = v1) (hx : a.eval x = v2) (hr : (Builtin.copy_ #[t, t2] o.type #[v1, v2]).run P w = .ok v' w') (h : K (a.put o.dst v') w') : if Region.wanted o (yielded ops a.tmps) = true then Oper.wp P o a w K Q else E := by
  rw [if_pos (by simp [Region.wanted, hg])]
  unfold Oper.wp
  simp [execOp, hop, resolve, invoke, builtin, hs, hx, hr, Result.andThen]
  exact h
end

end Go.Proofs.YtjfpeklfgnajoaaGreat.L6


namespace Go.Proofs.YtjfpeklfgnajoaaGreat.L6
open Go.ChangeShapes Go.WideShapes Go.ChangeAt Go.RowKit By Reg
set_option linter.unusedVariables false
set_option linter.unusedSimpArgs false

theorem info_K : (Tryz.prog.info? 2).map (fun i => (i.zero, i.size, i.bytes)) = some (some (.int .i64 0), 1, 8) := by kernel_rfl


set_option maxHeartbeats 4000000 in
set_option maxRecDepth 100000 in
/-- slices.Insert in place -/
theorem insert_shift_K (w : World) (g i vb : Nat) (xs rest : List Value) (x : Value) (hb : Blk w g 2 (xs ++ rest)) (hv : Blk w vb 2 [x]) (hne : vb ≠ g) (hi : i < xs.length) (hr : 0 < rest.length) (hbig : xs.length + rest.length ≤ maxLen) (h1 : ∀ u ∈ xs, u.oneCell' = true) (hx : x.oneCell' = true) :
    Calls Tryz.prog 138 #[.slice (some ⟨g, 0, none⟩) xs.length (xs.length + rest.length), i64 i, .slice (some ⟨vb, 0, none⟩) 1 1] w fun e w' =>
      e = .returned (.slice (some ⟨g, 0, none⟩) (xs.length + 1) (xs.length + rest.length)) ∧ Blk w' g 2 (xs.take i ++ x :: xs.drop i ++ rest.drop 1) ∧ Fr (fun k => k = g) w w' := by
  have hu := Tryz.underlying47
  have hsz : (Tryz.prog.info? 2).map (·.size) = some 1 := by kernel_rfl
  have hov : ∀ lb cb, (callFunc 155 #[.slice (some ⟨vb, 0, none⟩) 1 1, .slice (some ⟨g, i + 1, none⟩) lb cb]).run Tryz.prog w = .ok (.value (.bool false)) w := fun lb cb => by
    rw [run_callFunc_extern Tryz.func155 (by kernel_rfl) (by kernel_rfl) (by kernel_rfl) (e := Extern.SlicesOverlaps.overlaps #[47, 47] #[4]) (by kernel_rfl),
      Lib.run_overlaps_apart w 47 4 2 hu 1 (fun w => by kernel_rfl) ⟨vb, 0, none⟩ ⟨g, i + 1, none⟩ 1 1 lb cb hne _ _ _ _ hv.shape hb.shape (by rw [List.length_append]; omega) (hv.frozen _) (hv.frozen _)]
    rfl
  have hd : Blk w.drew g 2 (xs ++ rest) := hb
  obtain ⟨W1, hr1, hb1, hw1⟩ := run_copy_blk (P := Tryz.prog) (w := w.drew) (off := i + 1) hd hu hsz (xs.length + 1 - (i + 1)) (xs.length + rest.length - (i + 1)) (xs.length + 1 - i) (xs.length + rest.length - i) ⟨g, i, none⟩ (news := xs.drop i)
    (by rw [List.length_drop]; simp only [Nat.min_def]; split <;> omega) (fun j v hj => by
      rw [Addr.add_lit, hd.cell]
      have hj' := (List.getElem?_eq_some_iff.1 hj).1
      rw [List.length_drop] at hj'
      rw [List.getElem?_append_left (by omega)]
      rwa [List.getElem?_drop] at hj) (by rw [List.length_drop, List.length_append]; omega) (fun v hv => h1 v (List.mem_of_mem_drop hv))
  have hv1 : Blk W1 vb 2 [x] := hv.same (hw1.block vb hne)
  obtain ⟨W2, hr2, hb2, hw2⟩ := run_copy_blk (P := Tryz.prog) (w := W1) (off := i) hb1 hu hsz (xs.length + 1 - i) (xs.length + rest.length - i) 1 1 ⟨vb, 0, none⟩ (news := [x])
    (by simp only [List.length_singleton, Nat.min_def]; split <;> omega) (fun j v hj => by
      rw [Addr.add_lit, hv1.cell, Nat.zero_add]; exact hj) (by rw [length_splice _ _ _ (by rw [List.length_drop, List.length_append]; omega), List.length_append]; simp; omega) (fun v hv => by simp at hv; subst hv; exact hx)
  have hB : Blk W2 g 2 (xs.take i ++ x :: xs.drop i ++ rest.drop 1) := by
    have e : splice (splice (xs ++ rest) (i + 1) (xs.drop i)) i [x] = xs.take i ++ x :: xs.drop i ++ rest.drop 1 := by
      obtain ⟨A, B, rfl, rfl⟩ : ∃ A B, xs = A ++ B ∧ A.length = i := ⟨xs.take i, xs.drop i, by simp, by simp; omega⟩
      obtain ⟨b, B, rfl⟩ : ∃ b B', B = b :: B' := by cases B with | nil => simp at hi | cons b B => exact ⟨b, B, rfl⟩
      rw [splice_eq, splice_eq]
      simp [List.take_append, List.drop_append]
      rw [List.take_of_length_le (by omega), List.drop_eq_nil_of_le (by omega : A.length ≤ A.length + 1 + (B.length + 1)), show A.length + 1 + (B.length + 1) - A.length = B.length + 1 + 1 by omega]
      simp
    rw [← e]
    exact hb2
  have hF : Fr (fun k => k = g) w W2 := (((Fr.refl (fun k => k = g) w).drew).wrote hw1 (.inl rfl)).wrote hw2 (.inl rfl)
  have HB := Lib.hid hB
  have HF := Lib.hid hF
  obtain ⟨n, hn⟩ : ∃ n, n = xs.length := ⟨_, rfl⟩
  obtain ⟨m, hm⟩ : ∃ m, m = rest.length := ⟨_, rfl⟩
  rw [← hn] at hi hr1 hr2 hbig ⊢
  rw [← hm] at hr hr1 hr2 hbig ⊢
  rw [show (xs.drop i).length = n - i by rw [List.length_drop, hn]] at hr1
  clear hB hF hb hv hb1 hw1 hv1 hb2 hw2 hn hm h1 hx hd
  have hz2 : ((i : Int) == (n : Int)) = false := beq_eq_false_iff_ne.2 (by omega)
  have hz3 : ¬ ((n : Int) + 1 > (n : Int) + (m : Int)) := by omega
  unfold maxLen at hbig
  have hw1 : IntKind.i64.wrap ((i : Int) + 1) = (i : Int) + 1 := by rw [IntKind.wrap_i64]; omega
  have hw2 : IntKind.i64.wrap ((n : Int) + 1) = (n : Int) + 1 := by rw [IntKind.wrap_i64]; omega
  have htn : ((i : Int) + 1).toNat = i + 1 := by omega
  have htn2 : ((n : Int) + 1).toNat = n + 1 := by omega
  have hb2 : ¬ (n + m = i + 1) := by omega
  have hb4 : ¬ (n + m = i) := by omega
  have hin : i ≤ n := by omega
  have hb1 : (0 : Int) ≤ (i : Int) + 1 := by omega
  have hb3 : (i : Int) ≤ (n : Int) + 1 := by omega
  have mixed : Tryz.prog.follows Departure.mixedOrders = true := by kernel_rfl
  go_enter Tryz.func138, Tryz.ntmps138
  go_wp2_with (simp only [hov])
  go_region_law_o (refine step_run_copy rfl rfl (by simp [Act.eval, Act.put]) (by simp [Act.eval, Act.put]) (hr1 _) ?_)
  go_wp2_with (at_builtin; refine wpList_run_copy rfl rfl rfl rfl (hr2 _) ?_)
  go_ret
  exact ⟨rfl, HB.out, HF.out⟩



set_option maxHeartbeats 4000000 in
set_option maxRecDepth 100000 in
/-- slices.Insert where there is no room, ahead of the end -/
theorem insert_grow_K (w : World) (g i vb : Nat) (xs : List Value) (x : Value) (hb : Blk w g 2 xs) (hv : Blk w vb 2 [x]) (hi : i < xs.length) (hbig : xs.length ≤ 1000000) (h1 : ∀ u ∈ xs, u.oneCell' = true) (hx : x.oneCell' = true) :
    Calls Tryz.prog 138 #[.slice (some ⟨g, 0, none⟩) xs.length xs.length, i64 i, .slice (some ⟨vb, 0, none⟩) 1 1] w fun e w' =>
      ∃ v', e = .returned v' ∧ Row w' 2 v' (xs.take i ++ x :: xs.drop i) ∧ v'.ownBlock = some w.heap.size ∧ Rb w w' := by
  have hu := Tryz.underlying47
  have hui := Tryz.underlying3
  have hsz : (Tryz.prog.info? 2).map (·.size) = some 1 := by kernel_rfl
  obtain ⟨i0, hi0, hz0, hzs, hzb⟩ := info_parts info_K
  have hold : (Builtin.firstCells i0.size i (.slice (some ⟨g, 0, none⟩) i xs.length)).run Tryz.prog w.drew = .ok (xs.take i).toArray w.drew := by
    rw [hzs]
    exact run_firstCells_some w.drew 1 i ⟨g, 0, none⟩ i xs.length (xs.take i) (by rw [List.length_take]; omega) (fun j v hj => by
      rw [Addr.add_lit, Nat.zero_add]
      show w.cell? _ = _
      rw [hb.cell]
      rw [List.getElem?_take] at hj
      split at hj
      · exact hj
      · cases hj)
  obtain ⟨n, hn⟩ : ∃ n, n = xs.length := ⟨_, rfl⟩
  have hik : i + (n + 1 - i) = n + 1 := by omega
  have hra := fun ty => Lib.run_append_grow_zeros w 47 3 ty 2 i0 _ .i64 .i64 hu hui hi0 hz0 (some ⟨g, 0, none⟩) i xs.length (xs.take i) hold (n + 1 - i) (by omega) (by omega) (by omega) (by omega) (by rw [hzb]; omega) (by rw [hzb, hik]; exact growslice_fits (by omega) (by omega))
  rw [hik] at hra
  obtain ⟨G, hG⟩ : ∃ G, G = grownCap w (n + 1) xs.length 2 := ⟨_, rfl⟩
  rw [← hG] at hra
  have hGn : n + 1 ≤ G := by rw [hG]; exact grownCap_ge w _ _ _
  have hG63 : G ≤ maxLen := by rw [hG]; exact grownCap_le_maxLen w _ _ _ (by unfold maxLen; omega)
  obtain ⟨ROW, hROW⟩ : ∃ ROW : List Value, ROW = xs.take i ++ List.replicate (n + 1 - i) (.int .i64 0) ++ List.replicate (G - (n + 1)) (.int .i64 0) := ⟨_, rfl⟩
  have hzr : ∀ k, (Builtin.zeroCells ((.int .i64 0) : Value).cells k) = (List.replicate k ((.int .i64 0) : Value)).toArray := fun k => by
    apply Array.ext
    · simp [Builtin.zeroCells, Value.cells]
    · intro j h1 h2
      simp [Builtin.zeroCells, Value.cells, Nat.mod_one]
  have hrow : ((xs.take i).toArray ++ Builtin.zeroCells ((.int .i64 0) : Value).cells (n + 1 - i) ++ Builtin.zeroCells ((.int .i64 0) : Value).cells (G - (n + 1))) = ROW.toArray := by
    rw [hROW, hzr, hzr]
    simp
  rw [hrow] at hra
  have hRl : ROW.length = G := by rw [hROW]; simp; omega
  obtain ⟨W1, hW1⟩ : ∃ W1, W1 = w.drew.alloc (.cells ROW.toArray 2) := ⟨_, rfl⟩
  rw [← hW1] at hra
  have hb1 : Blk W1 w.heap.size 2 ROW := by rw [hW1]; exact Blk.new w.drew _ _
  have hrb1 : Rb w W1 := by rw [hW1]; exact ((Below.refl _ w).drew).alloc (Nat.le_refl _) _
  have hv1 : Blk W1 vb 2 [x] := hv.rb hrb1
  have hgb1 : Blk W1 g 2 xs := hb.rb hrb1
  obtain ⟨W2, hr2, hb2, hw2⟩ := run_copy_blk (P := Tryz.prog) (w := W1) (off := i) hb1 hu hsz (n + 1 - i) (G - i) 1 1 ⟨vb, 0, none⟩ (news := [x])
    (by simp only [List.length_singleton, Nat.min_def]; split <;> omega) (fun j v hj => by
      rw [Addr.add_lit, hv1.cell, Nat.zero_add]; exact hj) (by simp; omega) (fun v hv => by simp at hv; subst hv; exact hx)
  have hgs : g < w.heap.size := hb.lt
  have hgb2 : Blk W2.drew g 2 xs := hgb1.same (hw2.block g (by omega))
  have hb2d : Blk W2.drew w.heap.size 2 (splice ROW i [x]) := hb2
  obtain ⟨W3, hr3, hb3, hw3⟩ := run_copy_blk (P := Tryz.prog) (w := W2.drew) (off := i + 1) hb2d hu hsz (n + 1 - (i + 1)) (G - (i + 1)) (n - i) (n - i) ⟨g, i, none⟩ (news := xs.drop i)
    (by rw [List.length_drop]; simp only [Nat.min_def]; split <;> omega) (fun j v hj => by
      rw [Addr.add_lit, hgb2.cell]
      rwa [List.getElem?_drop] at hj) (by rw [length_splice _ _ _ (by simp; omega), List.length_drop]; omega) (fun v hv => h1 v (List.mem_of_mem_drop hv))
  have hB : Row W3 2 (.slice (some ⟨w.heap.size, 0, none⟩) (n + 1) G) (xs.take i ++ x :: xs.drop i) := by
    have e : splice (splice ROW i [x]) (i + 1) (xs.drop i) = (xs.take i ++ x :: xs.drop i) ++ List.replicate (G - (n + 1)) (.int .i64 0) := by
      obtain ⟨A, B, rfl, rfl⟩ : ∃ A B, xs = A ++ B ∧ A.length = i := ⟨xs.take i, xs.drop i, by simp, by simp; omega⟩
      obtain ⟨k, hk⟩ : ∃ k, n + 1 - A.length = k + 1 := ⟨n - A.length, by rw [List.length_append] at hn; omega⟩
      have hkB : B.length = k := by rw [List.length_append] at hn; omega
      rw [hROW, hk, splice_eq, splice_eq]
      simp [List.take_append, List.drop_append, List.replicate_succ]
      rw [List.take_of_length_le (by omega), List.drop_eq_nil_of_le (by omega : A.length ≤ A.length + 1 + B.length), hkB]
      simp
      rw [show A.length + 1 + k - A.length = k + 1 by omega]
      simp
      rw [List.drop_eq_nil_of_le (by omega : A.length ≤ A.length + 1)]
      simp
    rw [e] at hb3
    have hl : (xs.take i ++ x :: xs.drop i).length = n + 1 := by simp; omega
    have := Row.mk' hb3 (by rw [hl, List.length_replicate]; omega)
    rw [hl, List.length_replicate, show n + 1 + (G - (n + 1)) = G by omega] at this
    exact this
  have hR : Rb w W3 := by
    have a : Below w.heap.size w W1 := hrb1
    have b := Wrote.below a hw2 (Nat.le_refl _)
    exact Wrote.below b.drew hw3 (Nat.le_refl _)
  have HB := Lib.hid hB
  have HR := Lib.hid hR
  rw [← hn] at hi hbig hra ⊢
  rw [show (xs.drop i).length = n - i by rw [List.length_drop, hn]] at hr3
  clear hB hR hb hv hb1 hrb1 hv1 hgb1 hb2 hw2 hgs hgb2 hb2d hb3 hw3 hrow hzr hRl hROW hold hW1 hG hn h1 hx hi0 hz0 hzs hzb
  unfold maxLen at hG63
  have hz2 : ((i : Int) == (n : Int)) = false := beq_eq_false_iff_ne.2 (by omega)
  have hz3 : (n : Int) + 1 > (n : Int) := by omega
  have hkk : (n : Int) + 1 - (i : Int) = ((n + 1 - i : Nat) : Int) := by omega
  have hw1 : IntKind.i64.wrap ((i : Int) + 1) = (i : Int) + 1 := by rw [IntKind.wrap_i64]; omega
  have hw2 : IntKind.i64.wrap ((n : Int) + 1) = (n : Int) + 1 := by rw [IntKind.wrap_i64]; omega
  have htn : ((i : Int) + 1).toNat = i + 1 := by omega
  have hin : i ≤ n := by omega
  have hb1 : (0 : Int) ≤ (i : Int) + 1 := by omega
  have hb3 : (i : Int) ≤ (n : Int) + 1 := by omega
  have hGi : ¬ (G = i) := by omega
  have hGi1 : ¬ (G = i + 1) := by omega
  have hci : ¬ (n = i) := by omega
  have mixed : Tryz.prog.follows Departure.mixedOrders = true := by kernel_rfl
  go_enter Tryz.func138, Tryz.ntmps138
  go_wp2_with (at_builtin; first | (refine wpList_run_append rfl rfl rfl rfl (hra _) ?_) | (refine wpList_run_copy rfl rfl rfl rfl (hr2 _) ?_))
  go_region_law_o (refine step_run_copy rfl rfl (by simp [Act.eval, Act.put]) (by simp [Act.eval, Act.put]) (hr3 _) ?_)
  go_wp2
  go_ret
  exact ⟨_, rfl, HB.out, rfl, HR.out⟩



set_option maxHeartbeats 4000000 in
set_option maxRecDepth 100000 in
/-- slices.Insert at the end -/
theorem insert_end_K (w : World) (v : Value) (vb : Nat) (xs : List Value) (x : Value) (hr : Row w 2 v xs) (hv : Blk w vb 2 [x]) (hbig : xs.length ≤ 1000000) (hx : x.oneCell' = true) :
    Calls Tryz.prog 138 #[v, i64 xs.length, .slice (some ⟨vb, 0, none⟩) 1 1] w fun e w' => ∃ v', e = .returned v' ∧ Re w 2 v (xs ++ [x]) v' w' := by
  have hu := Tryz.underlying47
  obtain ⟨i0, hi0, hz0, hzs, hzb⟩ := info_parts info_K
  have hsl : Sl w (.slice (some ⟨vb, 0, none⟩) 1 1) [x] := ⟨_, 1, rfl, Nat.le_refl _, by unfold maxLen; omega, (fun h => by cases h), fun ad ha j u hj => by
    cases ha
    rw [Addr.add_lit, hv.cell, Nat.zero_add]; exact hj⟩
  obtain ⟨v', w', hra, h2, h3, h4⟩ := run_append_row (P := Tryz.prog) hu hi0 hz0 hzs hzb (by omega) rfl hr hsl (fun u hu => by simp at hu; subst hu; exact hx) (by simp; omega)
  have H : Re w 2 v (xs ++ [x]) v' w' := ⟨h2, (Fr.refl _ w).grown h3 (fun k hk => .inl hk), h4⟩
  have HH := Lib.hid H
  obtain ⟨ao, cap, rfl, hl, hm⟩ := hr.form
  obtain ⟨n, hn⟩ : ∃ n, n = xs.length := ⟨_, rfl⟩
  rw [← hn] at hra hl HH ⊢
  clear hi0 hz0 hzs hzb hsl h2 h3 h4 H hr hv hbig hx
  unfold maxLen at hm
  clear hn
  by_cases hcn : cap = n
  · subst hcn
    go_enter Tryz.func138, Tryz.ntmps138
    go_wp2_with (at_builtin; refine wpList_run_append rfl rfl rfl rfl (hra _) ?_)
    go_ret
    exact ⟨_, rfl, HH.out⟩
  · go_enter Tryz.func138, Tryz.ntmps138
    go_wp2_with (at_builtin; refine wpList_run_append rfl rfl rfl rfl (hra _) ?_)
    go_ret
    exact ⟨_, rfl, HH.out⟩



theorem insert_any_K (w : World) (v : Value) (i vb : Nat) (xs : List Value) (x : Value) (hr : Row w 2 v xs) (hv : Blk w vb 2 [x]) (hne : v.ownBlock ≠ some vb) (hi : i ≤ xs.length) (hbig : xs.length ≤ 1000000) (h1 : ∀ u ∈ xs, u.oneCell' = true) (hx : x.oneCell' = true) :
    Calls Tryz.prog 138 #[v, i64 i, .slice (some ⟨vb, 0, none⟩) 1 1] w fun e w' => ∃ v', e = .returned v' ∧ Re w 2 v (xs.take i ++ x :: xs.drop i) v' w' := by
  by_cases he : i = xs.length
  · subst he
    refine (insert_end_K w v vb xs x hr hv hbig hx).mono ?_
    rintro e w' ⟨v', rfl, h⟩
    refine ⟨v', rfl, ?_⟩
    simpa using h
  · rcases hr.cases' with ⟨rfl, rfl⟩ | ⟨g, rest, rfl, h2, h3⟩
    · simp at hi; exact absurd hi he
    · have hg : vb ≠ g := fun e => hne (by rw [e]; rfl)
      by_cases h0 : rest.length = 0
      · have : rest = [] := List.eq_nil_of_length_eq_zero h0
        subst this
        rw [List.append_nil] at h2
        refine (insert_grow_K w g i vb xs x h2 hv (by omega) hbig h1 hx).mono ?_
        rintro e w' ⟨v', rfl, k1, k2, k3⟩
        refine ⟨v', rfl, k1, Fr.of_rb k3, fun k hk => ?_⟩
        rw [k2] at hk
        cases hk
        exact .inr (Nat.le_refl _)
      · refine (insert_shift_K w g i vb xs rest x h2 hv hg (by omega) (by omega) h3 h1 hx).mono ?_
        rintro e w' ⟨rfl, k1, k2⟩
        refine ⟨_, rfl, ?_, k2.mono (fun k hk _ => by subst hk; rfl), fun k hk => .inl hk⟩
        have hl : (xs.take i ++ x :: xs.drop i).length = xs.length + 1 := by simp; omega
        have := Row.mk' k1 (by rw [hl, List.length_drop]; omega)
        rw [hl, List.length_drop, show xs.length + 1 + (rest.length - 1) = xs.length + rest.length by omega] at this
        exact this



set_option maxHeartbeats 4000000 in
set_option maxRecDepth 100000 in
theorem delete_any_K (w : World) (v : Value) (i j : Nat) (xs : List Value) (hr : Row w 2 v xs) (hij : i < j) (hj : j ≤ xs.length) (h1 : ∀ u ∈ xs, u.oneCell' = true) :
    Calls Tryz.prog 148 #[v, i64 i, i64 j] w fun e w' => ∃ v', e = .returned v' ∧ Re w 2 v (xs.take i ++ xs.drop j) v' w' ∧ v'.ownBlock = v.ownBlock := by
  rcases hr.cases' with ⟨rfl, rfl⟩ | ⟨g, rest, rfl, hb, hm⟩
  · simp at hj; omega
  have hu := Tryz.underlying47
  obtain ⟨i0, hi0, hz0, hzs, hzb⟩ := info_parts info_K
  obtain ⟨n, hn⟩ : ∃ n, n = xs.length := ⟨_, rfl⟩
  obtain ⟨cap, hcap⟩ : ∃ cap, cap = xs.length + rest.length := ⟨_, rfl⟩
  have hd : Blk w.drew g 2 (xs ++ rest) := hb
  obtain ⟨A, hA, hsrc⟩ : ∃ A : Addr, (if cap = j then some (⟨g, 0, none⟩ : Addr) else some ⟨g, j, none⟩) = some A ∧ ∀ t u, (xs.drop j)[t]? = some u → w.drew.cell? (A.add t) = some u := by
    by_cases h : cap = j
    · refine ⟨⟨g, 0, none⟩, by simp [h], fun t u hu => ?_⟩
      rw [List.drop_eq_nil_of_le (by omega)] at hu
      cases hu
    · refine ⟨⟨g, j, none⟩, by simp [h], fun t u hu => ?_⟩
      rw [Addr.add_lit, hd.cell]
      have ht := (List.getElem?_eq_some_iff.1 hu).1
      rw [List.length_drop] at ht
      rw [List.getElem?_append_left (by omega)]
      rwa [List.getElem?_drop] at hu
  obtain ⟨W1, hr1, hb1, hw1⟩ := run_append_blk (P := Tryz.prog) (w := w.drew) (off := 0) (n := i) (cap := cap) hd hu hi0 hzs A (n - j) (cap - j) (news := xs.drop j) (by rw [List.length_drop, hn]) hsrc (by omega) (by rw [List.length_drop, List.length_append]; omega) (fun v hv => h1 v (List.mem_of_mem_drop hv))
  have hl1 : (splice (xs ++ rest) (0 + i) (xs.drop j)).length = cap := by rw [length_splice _ _ _ (by rw [List.length_drop, List.length_append]; omega), List.length_append, hcap]
  obtain ⟨W2, hr2, hb2, hw2⟩ := run_clear_blk (P := Tryz.prog) (w := W1) (off := i + (n - j)) (n := n - (i + (n - j))) (c := cap - (i + (n - j))) hb1 hu Tryz.zeroValue2 rfl rfl (by omega) (by rw [hl1]; omega)
  have hB : Row W2 2 (.slice (some ⟨g, 0, none⟩) (i + (n - j)) cap) (xs.take i ++ xs.drop j) := by
    obtain ⟨rest', e⟩ : ∃ rest', splice (splice (xs ++ rest) (0 + i) (xs.drop j)) (i + (n - j)) (List.replicate (n - (i + (n - j))) (.int .i64 0)) = (xs.take i ++ xs.drop j) ++ rest' := by
      refine ⟨List.replicate (n - (i + (n - j))) (.int .i64 0) ++ (splice (xs ++ rest) (0 + i) (xs.drop j)).drop (i + (n - j) + (n - (i + (n - j)))), ?_⟩
      rw [splice_eq (splice _ _ _), List.length_replicate]
      rw [show (splice (xs ++ rest) (0 + i) (xs.drop j)).take (i + (n - j)) = xs.take i ++ xs.drop j by
        rw [splice_eq, Nat.zero_add, List.take_append_of_le_length (l₁ := xs) (by omega), ← List.append_assoc, List.take_append_of_le_length (by simp; omega)]
        exact List.take_of_length_le (by simp; omega)]
    have hl : (xs.take i ++ xs.drop j).length = i + (n - j) := by simp; omega
    have hl2 : ((xs.take i ++ xs.drop j) ++ rest').length = cap := by
      rw [← e, length_splice _ _ _ (by rw [hl1, List.length_replicate]; omega), hl1]
    rw [List.length_append, hl] at hl2
    rw [e] at hb2
    have := Row.mk' hb2 (by rw [hl, hl2, hcap]; exact hm)
    rw [hl, hl2] at this
    exact this
  have hF : Fr (fun k => (Value.slice (some ⟨g, 0, none⟩) xs.length (xs.length + rest.length)).ownBlock = some k) w W2 := (((Fr.refl (fun k => (Value.slice (some ⟨g, 0, none⟩) xs.length (xs.length + rest.length)).ownBlock = some k) w).drew).wrote hw1 (.inl rfl)).wrote hw2 (.inl rfl)
  have H : Re w 2 (.slice (some ⟨g, 0, none⟩) xs.length (xs.length + rest.length)) (xs.take i ++ xs.drop j) (.slice (some ⟨g, 0, none⟩) (i + (n - j)) cap) W2 := ⟨hB, hF, fun k hk => .inl hk⟩
  have HH := Lib.hid H
  have hnc : n ≤ cap := by omega
  rw [← hcap] at hm HH ⊢
  rw [← hn] at hj HH ⊢
  clear hB hF H hr h1 hi0 hz0 hzs hzb hb hd hsrc hb1 hw1 hb2 hw2 hl1
  clear hcap hn
  unfold maxLen at hm
  have hz2 : ((i : Int) == (j : Int)) = false := beq_eq_false_iff_ne.2 (by omega)
  have hic : i ≤ cap := by omega
  have hjc : j ≤ cap := by omega
  have hij' : i ≤ j := by omega
  have hin : i ≤ n := by omega
  have hni : ¬ (n = i) := by omega
  have hci : ¬ (cap = i) := by omega
  have hq : ¬ (cap = i + (n - j)) := by omega
  have hq1 : i + (n - j) ≤ n := by omega
  have hq2 : i + (n - j) ≤ cap := by omega
  have mixed : Tryz.prog.follows Departure.mixedOrders = true := by kernel_rfl
  go_enter Tryz.func148, Tryz.ntmps148
  go_wp2_with fail
  go_region_law_o (refine step_run_append rfl rfl (by simp [Act.eval, Act.put]) (by simp [Act.eval, Act.put]) (hr1 _) ?_)
  go_wp2_with (at_builtin; refine wpList_run_clear rfl rfl rfl (hr2 _) ?_)
  go_ret
  exact ⟨_, rfl, HH.out, rfl⟩


set_option maxHeartbeats 4000000 in
set_option maxRecDepth 100000 in
theorem clone_any_K (w : World) (v : Value) (xs : List Value) (hs : Sl w v xs) (hbig : xs.length ≤ 1000000) (h1 : ∀ u ∈ xs, u.oneCell' = true) :
    Calls Tryz.prog 117 #[v] w fun e w' => ∃ v', e = .returned v' ∧ Row w' 2 v' xs ∧ (∀ k, v'.ownBlock = some k → w.heap.size ≤ k) ∧ Rb w w' := by
  have hu := Tryz.underlying47
  obtain ⟨ao, cap, rfl, e2, e3, e4, e5⟩ := hs
  have q22 : ∀ (w : World) (a : Option Addr) (n c n' c' : Nat), (binOp .eql 47 (.slice a n c) (.slice none n' c')).run Tryz.prog w = .ok (.bool a.isNone) w := fun w a n c n' c' => Lib.run_eql_slice_nil w _ _ a n c n' c' hu
  cases ao with
  | none =>
    have hc := e4 rfl
    have h0 : xs = [] := List.eq_nil_of_length_eq_zero (by omega)
    subst h0
    clear e5 e4 e2 e3
    go_enter Tryz.func117, Tryz.ntmps117
    go_wp2_with fail
    go_ret
    exact ⟨_, rfl, Row.nil _ _, (fun k hk => by cases hk), Rb.refl _⟩
  | some ad =>
    obtain ⟨i0, hi0, hz0, hzs, hzb⟩ := info_parts info_K
    obtain ⟨W0, hW0⟩ : ∃ W0, W0 = w.alloc (.cells #[] 2) := ⟨_, rfl⟩
    have hr0 : Row W0 2 (.slice (some ⟨w.heap.size, 0, none⟩) 0 0) [] := by
      have hb : Blk W0 w.heap.size 2 ([] ++ []) := by rw [hW0]; exact Blk.new w _ []
      exact Row.mk' hb (Nat.zero_le _)
    have hrb : Rb w W0 := by rw [hW0]; exact (Below.refl _ w).alloc (Nat.le_refl _) _
    have hsl : Sl W0 (.slice (some ad) xs.length cap) xs := Sl.rb ⟨_, _, rfl, e2, e3, e4, e5⟩ hrb
    obtain ⟨v', w', hra, h2, h3, h4⟩ := run_append_row (P := Tryz.prog) hu hi0 hz0 hzs hzb (by omega) rfl hr0 hsl h1 (by simp; omega)
    have hR : Rb w w' := Below.grown (show Below w.heap.size w W0 from hrb) h3 hrb.size (fun k hk => by cases hk; exact Nat.le_refl _)
    have hN : ∀ k, v'.ownBlock = some k → w.heap.size ≤ k := fun k hk => by
      rcases h4 k hk with h | h
      · cases h; exact Nat.le_refl _
      · exact Nat.le_trans hrb.size h
    have HR := Lib.hid hR
    have HN := Lib.hid hN
    have H2 := Lib.hid h2
    obtain ⟨n, hn⟩ : ∃ n, n = xs.length := ⟨_, rfl⟩
    rw [← hn] at hra ⊢
    rw [hW0] at hra
    clear hR hN h2 h3 h4 hi0 hz0 hzs hzb hr0 hrb hsl hn hW0 e2 e3 e4 e5 hbig h1
    go_enter Tryz.func117, Tryz.ntmps117
    go_wp2_with (at_builtin; refine wpList_run_append rfl rfl rfl rfl (hra _) ?_)
    go_ret
    exact ⟨_, rfl, H2.out, HN.out, HR.out⟩


set_option maxHeartbeats 4000000 in
set_option maxRecDepth 100000 in
theorem cut_any_K (w : World) (v : Value) (at_ : Nat) (xs : List Value) (hr : Row w 2 v xs) (ha : at_ < xs.length) (hbig : xs.length ≤ 1000000) (h1 : ∀ u ∈ xs, u.oneCell' = true) :
    Calls Tryz.prog 152 #[v, i64 at_] w fun e w' => ∃ v1 v2, e = .returned (.tuple #[v1, v2]) ∧ Re w 2 v (xs.take at_) v1 w' ∧ v1.ownBlock = v.ownBlock ∧ Row w' 2 v2 (xs.drop at_) ∧ (∀ k, v2.ownBlock = some k → w.heap.size ≤ k) := by
  have HR := Lib.hid hr
  rcases hr.cases' with ⟨rfl, rfl⟩ | ⟨g, rest, rfl, hb, hm⟩
  · simp at ha
  have hsl : Sl w (.slice (some ⟨g, at_, none⟩) (xs.length - at_) (xs.length + rest.length - at_)) (xs.drop at_) := by
    refine ⟨_, _, by rw [List.length_drop], by rw [List.length_drop]; omega, by omega, (fun h => by cases h), fun ad e t u hu => ?_⟩
    cases e
    rw [Addr.add_lit, hb.cell]
    have ht := (List.getElem?_eq_some_iff.1 hu).1
    rw [List.length_drop] at ht
    rw [List.getElem?_append_left (by omega)]
    rwa [List.getElem?_drop] at hu
  have C := Lib.hid (clone_any_K w _ _ hsl (by rw [List.length_drop]; omega) (fun u hu => h1 u (List.mem_of_mem_drop hu)))
  have D := fun w' h => Lib.hid (delete_any_K w' (.slice (some ⟨g, 0, none⟩) xs.length (xs.length + rest.length)) at_ xs.length xs h ha (Nat.le_refl _) h1)
  obtain ⟨n, hn⟩ : ∃ n, n = xs.length := ⟨_, rfl⟩
  obtain ⟨cap, hcap⟩ : ∃ cap, cap = xs.length + rest.length := ⟨_, rfl⟩
  have hnc : n ≤ cap := by omega
  rw [← hcap] at HR C D hm ⊢
  rw [← hn] at HR C D ha ⊢
  have HB := Lib.hid hb
  have HN := Lib.hid hn
  clear hr hsl hb hcap hn hbig h1
  unfold maxLen at hm
  have hci : ¬ (cap = at_) := by omega
  have hic : at_ ≤ cap := by omega
  have hin : at_ ≤ n := by omega
  go_enter Tryz.func152, Tryz.ntmps152
  go_wp2_with (go_at_call 117; refine C.out.mono ?_)
  rintro e w1 ⟨v2, rfl, k1, k2, k3⟩
  have D1 := Lib.hid ((D w1 (HR.out.rb k3)).out)
  have K1 := Lib.hid k1
  have K2 := Lib.hid k2
  have K3 := Lib.hid k3
  clear k1 k2 k3 D
  go_wp2_with (go_at_call 148; refine D1.out.mono ?_)
  rintro e w2 ⟨v1, rfl, r1, r2⟩
  have R1 := Lib.hid r1
  have R2 := Lib.hid r2
  clear r1 r2
  go_wp2_with fail
  go_ret2
  have r1 := R1.out
  have k1 := K1.out
  have k2 := K2.out
  have k3 := K3.out
  refine ⟨v1, v2, rfl, ⟨?_, ?_, ?_⟩, R2.out, ?_, k2⟩
  · have := r1.row
    rwa [List.drop_eq_nil_of_le (by rw [HN.out]; exact Nat.le_refl _), List.append_nil] at this
  · exact (Fr.of_rb k3).trans r1.fr (fun k hk => .inl hk)
  · intro k hk
    rcases r1.new k hk with h | h
    · exact .inl h
    · have := k3.size; exact .inr (by omega)
  · exact k1.fr r1.fr (fun k hk h => by
      have h1 := k2 k hk
      have h2 := HB.out.lt
      have h3 : g = k := by simpa [Value.ownBlock] using h
      omega)

end Go.Proofs.YtjfpeklfgnajoaaGreat.L6


namespace Go.Proofs.YtjfpeklfgnajoaaGreat.L6
open Go.ChangeShapes Go.WideShapes Go.ChangeAt Go.RowKit By Reg
set_option linter.unusedVariables false
set_option linter.unusedSimpArgs false

theorem info_V : (Tryz.prog.info? 32).map (fun i => (i.zero, i.size, i.bytes)) = some (some (.slice none 0 0), 1, 24) := by kernel_rfl


set_option maxHeartbeats 4000000 in
set_option maxRecDepth 100000 in
/-- slices.Insert in place -/
theorem insert_shift_V (w : World) (g i vb : Nat) (xs rest : List Value) (x : Value) (hb : Blk w g 32 (xs ++ rest)) (hv : Blk w vb 32 [x]) (hne : vb ≠ g) (hi : i < xs.length) (hr : 0 < rest.length) (hbig : xs.length + rest.length ≤ maxLen) (h1 : ∀ u ∈ xs, u.oneCell' = true) (hx : x.oneCell' = true) :
    Calls Tryz.prog 151 #[.slice (some ⟨g, 0, none⟩) xs.length (xs.length + rest.length), i64 i, .slice (some ⟨vb, 0, none⟩) 1 1] w fun e w' =>
      e = .returned (.slice (some ⟨g, 0, none⟩) (xs.length + 1) (xs.length + rest.length)) ∧ Blk w' g 32 (xs.take i ++ x :: xs.drop i ++ rest.drop 1) ∧ Fr (fun k => k = g) w w' := by
  have hu := Tryz.underlying157
  have hsz : (Tryz.prog.info? 32).map (·.size) = some 1 := by kernel_rfl
  have hov : ∀ lb cb, (callFunc 171 #[.slice (some ⟨vb, 0, none⟩) 1 1, .slice (some ⟨g, i + 1, none⟩) lb cb]).run Tryz.prog w = .ok (.value (.bool false)) w := fun lb cb => by
    rw [run_callFunc_extern Tryz.func171 (by kernel_rfl) (by kernel_rfl) (by kernel_rfl) (e := Extern.SlicesOverlaps.overlaps #[157, 157] #[4]) (by kernel_rfl),
      Lib.run_overlaps_apart w 157 4 32 hu 1 (fun w => by kernel_rfl) ⟨vb, 0, none⟩ ⟨g, i + 1, none⟩ 1 1 lb cb hne _ _ _ _ hv.shape hb.shape (by rw [List.length_append]; omega) (hv.frozen _) (hv.frozen _)]
    rfl
  have hd : Blk w.drew g 32 (xs ++ rest) := hb
  obtain ⟨W1, hr1, hb1, hw1⟩ := run_copy_blk (P := Tryz.prog) (w := w.drew) (off := i + 1) hd hu hsz (xs.length + 1 - (i + 1)) (xs.length + rest.length - (i + 1)) (xs.length + 1 - i) (xs.length + rest.length - i) ⟨g, i, none⟩ (news := xs.drop i)
    (by rw [List.length_drop]; simp only [Nat.min_def]; split <;> omega) (fun j v hj => by
      rw [Addr.add_lit, hd.cell]
      have hj' := (List.getElem?_eq_some_iff.1 hj).1
      rw [List.length_drop] at hj'
      rw [List.getElem?_append_left (by omega)]
      rwa [List.getElem?_drop] at hj) (by rw [List.length_drop, List.length_append]; omega) (fun v hv => h1 v (List.mem_of_mem_drop hv))
  have hv1 : Blk W1 vb 32 [x] := hv.same (hw1.block vb hne)
  obtain ⟨W2, hr2, hb2, hw2⟩ := run_copy_blk (P := Tryz.prog) (w := W1) (off := i) hb1 hu hsz (xs.length + 1 - i) (xs.length + rest.length - i) 1 1 ⟨vb, 0, none⟩ (news := [x])
    (by simp only [List.length_singleton, Nat.min_def]; split <;> omega) (fun j v hj => by
      rw [Addr.add_lit, hv1.cell, Nat.zero_add]; exact hj) (by rw [length_splice _ _ _ (by rw [List.length_drop, List.length_append]; omega), List.length_append]; simp; omega) (fun v hv => by simp at hv; subst hv; exact hx)
  have hB : Blk W2 g 32 (xs.take i ++ x :: xs.drop i ++ rest.drop 1) := by
    have e : splice (splice (xs ++ rest) (i + 1) (xs.drop i)) i [x] = xs.take i ++ x :: xs.drop i ++ rest.drop 1 := by
      obtain ⟨A, B, rfl, rfl⟩ : ∃ A B, xs = A ++ B ∧ A.length = i := ⟨xs.take i, xs.drop i, by simp, by simp; omega⟩
      obtain ⟨b, B, rfl⟩ : ∃ b B', B = b :: B' := by cases B with | nil => simp at hi | cons b B => exact ⟨b, B, rfl⟩
      rw [splice_eq, splice_eq]
      simp [List.take_append, List.drop_append]
      rw [List.take_of_length_le (by omega), List.drop_eq_nil_of_le (by omega : A.length ≤ A.length + 1 + (B.length + 1)), show A.length + 1 + (B.length + 1) - A.length = B.length + 1 + 1 by omega]
      simp
    rw [← e]
    exact hb2
  have hF : Fr (fun k => k = g) w W2 := (((Fr.refl (fun k => k = g) w).drew).wrote hw1 (.inl rfl)).wrote hw2 (.inl rfl)
  have HB := Lib.hid hB
  have HF := Lib.hid hF
  obtain ⟨n, hn⟩ : ∃ n, n = xs.length := ⟨_, rfl⟩
  obtain ⟨m, hm⟩ : ∃ m, m = rest.length := ⟨_, rfl⟩
  rw [← hn] at hi hr1 hr2 hbig ⊢
  rw [← hm] at hr hr1 hr2 hbig ⊢
  rw [show (xs.drop i).length = n - i by rw [List.length_drop, hn]] at hr1
  clear hB hF hb hv hb1 hw1 hv1 hb2 hw2 hn hm h1 hx hd
  have hz2 : ((i : Int) == (n : Int)) = false := beq_eq_false_iff_ne.2 (by omega)
  have hz3 : ¬ ((n : Int) + 1 > (n : Int) + (m : Int)) := by omega
  unfold maxLen at hbig
  have hw1 : IntKind.i64.wrap ((i : Int) + 1) = (i : Int) + 1 := by rw [IntKind.wrap_i64]; omega
  have hw2 : IntKind.i64.wrap ((n : Int) + 1) = (n : Int) + 1 := by rw [IntKind.wrap_i64]; omega
  have htn : ((i : Int) + 1).toNat = i + 1 := by omega
  have htn2 : ((n : Int) + 1).toNat = n + 1 := by omega
  have hb2 : ¬ (n + m = i + 1) := by omega
  have hb4 : ¬ (n + m = i) := by omega
  have hin : i ≤ n := by omega
  have hb1 : (0 : Int) ≤ (i : Int) + 1 := by omega
  have hb3 : (i : Int) ≤ (n : Int) + 1 := by omega
  have mixed : Tryz.prog.follows Departure.mixedOrders = true := by kernel_rfl
  go_enter Tryz.func151, Tryz.ntmps151
  go_wp2_with (simp only [hov])
  go_region_law_o (refine step_run_copy rfl rfl (by simp [Act.eval, Act.put]) (by simp [Act.eval, Act.put]) (hr1 _) ?_)
  go_wp2_with (at_builtin; refine wpList_run_copy rfl rfl rfl rfl (hr2 _) ?_)
  go_ret
  exact ⟨rfl, HB.out, HF.out⟩



set_option maxHeartbeats 4000000 in
set_option maxRecDepth 100000 in
/-- slices.Insert where there is no room, ahead of the end -/
theorem insert_grow_V (w : World) (g i vb : Nat) (xs : List Value) (x : Value) (hb : Blk w g 32 xs) (hv : Blk w vb 32 [x]) (hi : i < xs.length) (hbig : xs.length ≤ 1000000) (h1 : ∀ u ∈ xs, u.oneCell' = true) (hx : x.oneCell' = true) :
    Calls Tryz.prog 151 #[.slice (some ⟨g, 0, none⟩) xs.length xs.length, i64 i, .slice (some ⟨vb, 0, none⟩) 1 1] w fun e w' =>
      ∃ v', e = .returned v' ∧ Row w' 32 v' (xs.take i ++ x :: xs.drop i) ∧ v'.ownBlock = some w.heap.size ∧ Rb w w' := by
  have hu := Tryz.underlying157
  have hui := Tryz.underlying3
  have hsz : (Tryz.prog.info? 32).map (·.size) = some 1 := by kernel_rfl
  obtain ⟨i0, hi0, hz0, hzs, hzb⟩ := info_parts info_V
  have hold : (Builtin.firstCells i0.size i (.slice (some ⟨g, 0, none⟩) i xs.length)).run Tryz.prog w.drew = .ok (xs.take i).toArray w.drew := by
    rw [hzs]
    exact run_firstCells_some w.drew 1 i ⟨g, 0, none⟩ i xs.length (xs.take i) (by rw [List.length_take]; omega) (fun j v hj => by
      rw [Addr.add_lit, Nat.zero_add]
      show w.cell? _ = _
      rw [hb.cell]
      rw [List.getElem?_take] at hj
      split at hj
      · exact hj
      · cases hj)
  obtain ⟨n, hn⟩ : ∃ n, n = xs.length := ⟨_, rfl⟩
  have hik : i + (n + 1 - i) = n + 1 := by omega
  have hra := fun ty => Lib.run_append_grow_zeros w 157 3 ty 32 i0 _ .i64 .i64 hu hui hi0 hz0 (some ⟨g, 0, none⟩) i xs.length (xs.take i) hold (n + 1 - i) (by omega) (by omega) (by omega) (by omega) (by rw [hzb]; omega) (by rw [hzb, hik]; exact growslice_fits (by omega) (by omega))
  rw [hik] at hra
  obtain ⟨G, hG⟩ : ∃ G, G = grownCap w (n + 1) xs.length 32 := ⟨_, rfl⟩
  rw [← hG] at hra
  have hGn : n + 1 ≤ G := by rw [hG]; exact grownCap_ge w _ _ _
  have hG63 : G ≤ maxLen := by rw [hG]; exact grownCap_le_maxLen w _ _ _ (by unfold maxLen; omega)
  obtain ⟨ROW, hROW⟩ : ∃ ROW : List Value, ROW = xs.take i ++ List.replicate (n + 1 - i) (.slice none 0 0) ++ List.replicate (G - (n + 1)) (.slice none 0 0) := ⟨_, rfl⟩
  have hzr : ∀ k, (Builtin.zeroCells ((.slice none 0 0) : Value).cells k) = (List.replicate k ((.slice none 0 0) : Value)).toArray := fun k => by
    apply Array.ext
    · simp [Builtin.zeroCells, Value.cells]
    · intro j h1 h2
      simp [Builtin.zeroCells, Value.cells, Nat.mod_one]
  have hrow : ((xs.take i).toArray ++ Builtin.zeroCells ((.slice none 0 0) : Value).cells (n + 1 - i) ++ Builtin.zeroCells ((.slice none 0 0) : Value).cells (G - (n + 1))) = ROW.toArray := by
    rw [hROW, hzr, hzr]
    simp
  rw [hrow] at hra
  have hRl : ROW.length = G := by rw [hROW]; simp; omega
  obtain ⟨W1, hW1⟩ : ∃ W1, W1 = w.drew.alloc (.cells ROW.toArray 32) := ⟨_, rfl⟩
  rw [← hW1] at hra
  have hb1 : Blk W1 w.heap.size 32 ROW := by rw [hW1]; exact Blk.new w.drew _ _
  have hrb1 : Rb w W1 := by rw [hW1]; exact ((Below.refl _ w).drew).alloc (Nat.le_refl _) _
  have hv1 : Blk W1 vb 32 [x] := hv.rb hrb1
  have hgb1 : Blk W1 g 32 xs := hb.rb hrb1
  obtain ⟨W2, hr2, hb2, hw2⟩ := run_copy_blk (P := Tryz.prog) (w := W1) (off := i) hb1 hu hsz (n + 1 - i) (G - i) 1 1 ⟨vb, 0, none⟩ (news := [x])
    (by simp only [List.length_singleton, Nat.min_def]; split <;> omega) (fun j v hj => by
      rw [Addr.add_lit, hv1.cell, Nat.zero_add]; exact hj) (by simp; omega) (fun v hv => by simp at hv; subst hv; exact hx)
  have hgs : g < w.heap.size := hb.lt
  have hgb2 : Blk W2.drew g 32 xs := hgb1.same (hw2.block g (by omega))
  have hb2d : Blk W2.drew w.heap.size 32 (splice ROW i [x]) := hb2
  obtain ⟨W3, hr3, hb3, hw3⟩ := run_copy_blk (P := Tryz.prog) (w := W2.drew) (off := i + 1) hb2d hu hsz (n + 1 - (i + 1)) (G - (i + 1)) (n - i) (n - i) ⟨g, i, none⟩ (news := xs.drop i)
    (by rw [List.length_drop]; simp only [Nat.min_def]; split <;> omega) (fun j v hj => by
      rw [Addr.add_lit, hgb2.cell]
      rwa [List.getElem?_drop] at hj) (by rw [length_splice _ _ _ (by simp; omega), List.length_drop]; omega) (fun v hv => h1 v (List.mem_of_mem_drop hv))
  have hB : Row W3 32 (.slice (some ⟨w.heap.size, 0, none⟩) (n + 1) G) (xs.take i ++ x :: xs.drop i) := by
    have e : splice (splice ROW i [x]) (i + 1) (xs.drop i) = (xs.take i ++ x :: xs.drop i) ++ List.replicate (G - (n + 1)) (.slice none 0 0) := by
      obtain ⟨A, B, rfl, rfl⟩ : ∃ A B, xs = A ++ B ∧ A.length = i := ⟨xs.take i, xs.drop i, by simp, by simp; omega⟩
      obtain ⟨k, hk⟩ : ∃ k, n + 1 - A.length = k + 1 := ⟨n - A.length, by rw [List.length_append] at hn; omega⟩
      have hkB : B.length = k := by rw [List.length_append] at hn; omega
      rw [hROW, hk, splice_eq, splice_eq]
      simp [List.take_append, List.drop_append, List.replicate_succ]
      rw [List.take_of_length_le (by omega), List.drop_eq_nil_of_le (by omega : A.length ≤ A.length + 1 + B.length), hkB]
      simp
      rw [show A.length + 1 + k - A.length = k + 1 by omega]
      simp
      rw [List.drop_eq_nil_of_le (by omega : A.length ≤ A.length + 1)]
      simp
    rw [e] at hb3
    have hl : (xs.take i ++ x :: xs.drop i).length = n + 1 := by simp; omega
    have := Row.mk' hb3 (by rw [hl, List.length_replicate]; omega)
    rw [hl, List.length_replicate, show n + 1 + (G - (n + 1)) = G by omega] at this
    exact this
  have hR : Rb w W3 := by
    have a : Below w.heap.size w W1 := hrb1
    have b := Wrote.below a hw2 (Nat.le_refl _)
    exact Wrote.below b.drew hw3 (Nat.le_refl _)
  have HB := Lib.hid hB
  have HR := Lib.hid hR
  rw [← hn] at hi hbig hra ⊢
  rw [show (xs.drop i).length = n - i by rw [List.length_drop, hn]] at hr3
  clear hB hR hb hv hb1 hrb1 hv1 hgb1 hb2 hw2 hgs hgb2 hb2d hb3 hw3 hrow hzr hRl hROW hold hW1 hG hn h1 hx hi0 hz0 hzs hzb
  unfold maxLen at hG63
  have hz2 : ((i : Int) == (n : Int)) = false := beq_eq_false_iff_ne.2 (by omega)
  have hz3 : (n : Int) + 1 > (n : Int) := by omega
  have hkk : (n : Int) + 1 - (i : Int) = ((n + 1 - i : Nat) : Int) := by omega
  have hw1 : IntKind.i64.wrap ((i : Int) + 1) = (i : Int) + 1 := by rw [IntKind.wrap_i64]; omega
  have hw2 : IntKind.i64.wrap ((n : Int) + 1) = (n : Int) + 1 := by rw [IntKind.wrap_i64]; omega
  have htn : ((i : Int) + 1).toNat = i + 1 := by omega
  have hin : i ≤ n := by omega
  have hb1 : (0 : Int) ≤ (i : Int) + 1 := by omega
  have hb3 : (i : Int) ≤ (n : Int) + 1 := by omega
  have hGi : ¬ (G = i) := by omega
  have hGi1 : ¬ (G = i + 1) := by omega
  have hci : ¬ (n = i) := by omega
  have mixed : Tryz.prog.follows Departure.mixedOrders = true := by kernel_rfl
  go_enter Tryz.func151, Tryz.ntmps151
  go_wp2_with (at_builtin; first | (refine wpList_run_append rfl rfl rfl rfl (hra _) ?_) | (refine wpList_run_copy rfl rfl rfl rfl (hr2 _) ?_))
  go_region_law_o (refine step_run_copy rfl rfl (by simp [Act.eval, Act.put]) (by simp [Act.eval, Act.put]) (hr3 _) ?_)
  go_wp2
  go_ret
  exact ⟨_, rfl, HB.out, rfl, HR.out⟩



set_option maxHeartbeats 4000000 in
set_option maxRecDepth 100000 in
/-- slices.Insert at the end -/
theorem insert_end_V (w : World) (v : Value) (vb : Nat) (xs : List Value) (x : Value) (hr : Row w 32 v xs) (hv : Blk w vb 32 [x]) (hbig : xs.length ≤ 1000000) (hx : x.oneCell' = true) :
    Calls Tryz.prog 151 #[v, i64 xs.length, .slice (some ⟨vb, 0, none⟩) 1 1] w fun e w' => ∃ v', e = .returned v' ∧ Re w 32 v (xs ++ [x]) v' w' := by
  have hu := Tryz.underlying157
  obtain ⟨i0, hi0, hz0, hzs, hzb⟩ := info_parts info_V
  have hsl : Sl w (.slice (some ⟨vb, 0, none⟩) 1 1) [x] := ⟨_, 1, rfl, Nat.le_refl _, by unfold maxLen; omega, (fun h => by cases h), fun ad ha j u hj => by
    cases ha
    rw [Addr.add_lit, hv.cell, Nat.zero_add]; exact hj⟩
  obtain ⟨v', w', hra, h2, h3, h4⟩ := run_append_row (P := Tryz.prog) hu hi0 hz0 hzs hzb (by omega) rfl hr hsl (fun u hu => by simp at hu; subst hu; exact hx) (by simp; omega)
  have H : Re w 32 v (xs ++ [x]) v' w' := ⟨h2, (Fr.refl _ w).grown h3 (fun k hk => .inl hk), h4⟩
  have HH := Lib.hid H
  obtain ⟨ao, cap, rfl, hl, hm⟩ := hr.form
  obtain ⟨n, hn⟩ : ∃ n, n = xs.length := ⟨_, rfl⟩
  rw [← hn] at hra hl HH ⊢
  clear hi0 hz0 hzs hzb hsl h2 h3 h4 H hr hv hbig hx
  unfold maxLen at hm
  clear hn
  by_cases hcn : cap = n
  · subst hcn
    go_enter Tryz.func151, Tryz.ntmps151
    go_wp2_with (at_builtin; refine wpList_run_append rfl rfl rfl rfl (hra _) ?_)
    go_ret
    exact ⟨_, rfl, HH.out⟩
  · go_enter Tryz.func151, Tryz.ntmps151
    go_wp2_with (at_builtin; refine wpList_run_append rfl rfl rfl rfl (hra _) ?_)
    go_ret
    exact ⟨_, rfl, HH.out⟩



theorem insert_any_V (w : World) (v : Value) (i vb : Nat) (xs : List Value) (x : Value) (hr : Row w 32 v xs) (hv : Blk w vb 32 [x]) (hne : v.ownBlock ≠ some vb) (hi : i ≤ xs.length) (hbig : xs.length ≤ 1000000) (h1 : ∀ u ∈ xs, u.oneCell' = true) (hx : x.oneCell' = true) :
    Calls Tryz.prog 151 #[v, i64 i, .slice (some ⟨vb, 0, none⟩) 1 1] w fun e w' => ∃ v', e = .returned v' ∧ Re w 32 v (xs.take i ++ x :: xs.drop i) v' w' := by
  by_cases he : i = xs.length
  · subst he
    refine (insert_end_V w v vb xs x hr hv hbig hx).mono ?_
    rintro e w' ⟨v', rfl, h⟩
    refine ⟨v', rfl, ?_⟩
    simpa using h
  · rcases hr.cases' with ⟨rfl, rfl⟩ | ⟨g, rest, rfl, h2, h3⟩
    · simp at hi; exact absurd hi he
    · have hg : vb ≠ g := fun e => hne (by rw [e]; rfl)
      by_cases h0 : rest.length = 0
      · have : rest = [] := List.eq_nil_of_length_eq_zero h0
        subst this
        rw [List.append_nil] at h2
        refine (insert_grow_V w g i vb xs x h2 hv (by omega) hbig h1 hx).mono ?_
        rintro e w' ⟨v', rfl, k1, k2, k3⟩
        refine ⟨v', rfl, k1, Fr.of_rb k3, fun k hk => ?_⟩
        rw [k2] at hk
        cases hk
        exact .inr (Nat.le_refl _)
      · refine (insert_shift_V w g i vb xs rest x h2 hv hg (by omega) (by omega) h3 h1 hx).mono ?_
        rintro e w' ⟨rfl, k1, k2⟩
        refine ⟨_, rfl, ?_, k2.mono (fun k hk _ => by subst hk; rfl), fun k hk => .inl hk⟩
        have hl : (xs.take i ++ x :: xs.drop i).length = xs.length + 1 := by simp; omega
        have := Row.mk' k1 (by rw [hl, List.length_drop]; omega)
        rw [hl, List.length_drop, show xs.length + 1 + (rest.length - 1) = xs.length + rest.length by omega] at this
        exact this



set_option maxHeartbeats 4000000 in
set_option maxRecDepth 100000 in
theorem delete_any_V (w : World) (v : Value) (i j : Nat) (xs : List Value) (hr : Row w 32 v xs) (hij : i < j) (hj : j ≤ xs.length) (h1 : ∀ u ∈ xs, u.oneCell' = true) :
    Calls Tryz.prog 149 #[v, i64 i, i64 j] w fun e w' => ∃ v', e = .returned v' ∧ Re w 32 v (xs.take i ++ xs.drop j) v' w' ∧ v'.ownBlock = v.ownBlock := by
  rcases hr.cases' with ⟨rfl, rfl⟩ | ⟨g, rest, rfl, hb, hm⟩
  · simp at hj; omega
  have hu := Tryz.underlying157
  obtain ⟨i0, hi0, hz0, hzs, hzb⟩ := info_parts info_V
  obtain ⟨n, hn⟩ : ∃ n, n = xs.length := ⟨_, rfl⟩
  obtain ⟨cap, hcap⟩ : ∃ cap, cap = xs.length + rest.length := ⟨_, rfl⟩
  have hd : Blk w.drew g 32 (xs ++ rest) := hb
  obtain ⟨A, hA, hsrc⟩ : ∃ A : Addr, (if cap = j then some (⟨g, 0, none⟩ : Addr) else some ⟨g, j, none⟩) = some A ∧ ∀ t u, (xs.drop j)[t]? = some u → w.drew.cell? (A.add t) = some u := by
    by_cases h : cap = j
    · refine ⟨⟨g, 0, none⟩, by simp [h], fun t u hu => ?_⟩
      rw [List.drop_eq_nil_of_le (by omega)] at hu
      cases hu
    · refine ⟨⟨g, j, none⟩, by simp [h], fun t u hu => ?_⟩
      rw [Addr.add_lit, hd.cell]
      have ht := (List.getElem?_eq_some_iff.1 hu).1
      rw [List.length_drop] at ht
      rw [List.getElem?_append_left (by omega)]
      rwa [List.getElem?_drop] at hu
  obtain ⟨W1, hr1, hb1, hw1⟩ := run_append_blk (P := Tryz.prog) (w := w.drew) (off := 0) (n := i) (cap := cap) hd hu hi0 hzs A (n - j) (cap - j) (news := xs.drop j) (by rw [List.length_drop, hn]) hsrc (by omega) (by rw [List.length_drop, List.length_append]; omega) (fun v hv => h1 v (List.mem_of_mem_drop hv))
  have hl1 : (splice (xs ++ rest) (0 + i) (xs.drop j)).length = cap := by rw [length_splice _ _ _ (by rw [List.length_drop, List.length_append]; omega), List.length_append, hcap]
  obtain ⟨W2, hr2, hb2, hw2⟩ := run_clear_blk (P := Tryz.prog) (w := W1) (off := i + (n - j)) (n := n - (i + (n - j))) (c := cap - (i + (n - j))) hb1 hu Tryz.zeroValue32 rfl rfl (by omega) (by rw [hl1]; omega)
  have hB : Row W2 32 (.slice (some ⟨g, 0, none⟩) (i + (n - j)) cap) (xs.take i ++ xs.drop j) := by
    obtain ⟨rest', e⟩ : ∃ rest', splice (splice (xs ++ rest) (0 + i) (xs.drop j)) (i + (n - j)) (List.replicate (n - (i + (n - j))) (.slice none 0 0)) = (xs.take i ++ xs.drop j) ++ rest' := by
      refine ⟨List.replicate (n - (i + (n - j))) (.slice none 0 0) ++ (splice (xs ++ rest) (0 + i) (xs.drop j)).drop (i + (n - j) + (n - (i + (n - j)))), ?_⟩
      rw [splice_eq (splice _ _ _), List.length_replicate]
      rw [show (splice (xs ++ rest) (0 + i) (xs.drop j)).take (i + (n - j)) = xs.take i ++ xs.drop j by
        rw [splice_eq, Nat.zero_add, List.take_append_of_le_length (l₁ := xs) (by omega), ← List.append_assoc, List.take_append_of_le_length (by simp; omega)]
        exact List.take_of_length_le (by simp; omega)]
    have hl : (xs.take i ++ xs.drop j).length = i + (n - j) := by simp; omega
    have hl2 : ((xs.take i ++ xs.drop j) ++ rest').length = cap := by
      rw [← e, length_splice _ _ _ (by rw [hl1, List.length_replicate]; omega), hl1]
    rw [List.length_append, hl] at hl2
    rw [e] at hb2
    have := Row.mk' hb2 (by rw [hl, hl2, hcap]; exact hm)
    rw [hl, hl2] at this
    exact this
  have hF : Fr (fun k => (Value.slice (some ⟨g, 0, none⟩) xs.length (xs.length + rest.length)).ownBlock = some k) w W2 := (((Fr.refl (fun k => (Value.slice (some ⟨g, 0, none⟩) xs.length (xs.length + rest.length)).ownBlock = some k) w).drew).wrote hw1 (.inl rfl)).wrote hw2 (.inl rfl)
  have H : Re w 32 (.slice (some ⟨g, 0, none⟩) xs.length (xs.length + rest.length)) (xs.take i ++ xs.drop j) (.slice (some ⟨g, 0, none⟩) (i + (n - j)) cap) W2 := ⟨hB, hF, fun k hk => .inl hk⟩
  have HH := Lib.hid H
  have hnc : n ≤ cap := by omega
  rw [← hcap] at hm HH ⊢
  rw [← hn] at hj HH ⊢
  clear hB hF H hr h1 hi0 hz0 hzs hzb hb hd hsrc hb1 hw1 hb2 hw2 hl1
  clear hcap hn
  unfold maxLen at hm
  have hz2 : ((i : Int) == (j : Int)) = false := beq_eq_false_iff_ne.2 (by omega)
  have hic : i ≤ cap := by omega
  have hjc : j ≤ cap := by omega
  have hij' : i ≤ j := by omega
  have hin : i ≤ n := by omega
  have hni : ¬ (n = i) := by omega
  have hci : ¬ (cap = i) := by omega
  have hq : ¬ (cap = i + (n - j)) := by omega
  have hq1 : i + (n - j) ≤ n := by omega
  have hq2 : i + (n - j) ≤ cap := by omega
  have mixed : Tryz.prog.follows Departure.mixedOrders = true := by kernel_rfl
  go_enter Tryz.func149, Tryz.ntmps149
  go_wp2_with fail
  go_region_law_o (refine step_run_append rfl rfl (by simp [Act.eval, Act.put]) (by simp [Act.eval, Act.put]) (hr1 _) ?_)
  go_wp2_with (at_builtin; refine wpList_run_clear rfl rfl rfl (hr2 _) ?_)
  go_ret
  exact ⟨_, rfl, HH.out, rfl⟩


set_option maxHeartbeats 4000000 in
set_option maxRecDepth 100000 in
theorem clone_any_V (w : World) (v : Value) (xs : List Value) (hs : Sl w v xs) (hbig : xs.length ≤ 1000000) (h1 : ∀ u ∈ xs, u.oneCell' = true) :
    Calls Tryz.prog 118 #[v] w fun e w' => ∃ v', e = .returned v' ∧ Row w' 32 v' xs ∧ (∀ k, v'.ownBlock = some k → w.heap.size ≤ k) ∧ Rb w w' := by
  have hu := Tryz.underlying157
  obtain ⟨ao, cap, rfl, e2, e3, e4, e5⟩ := hs
  have q22 : ∀ (w : World) (a : Option Addr) (n c n' c' : Nat), (binOp .eql 157 (.slice a n c) (.slice none n' c')).run Tryz.prog w = .ok (.bool a.isNone) w := fun w a n c n' c' => Lib.run_eql_slice_nil w _ _ a n c n' c' hu
  cases ao with
  | none =>
    have hc := e4 rfl
    have h0 : xs = [] := List.eq_nil_of_length_eq_zero (by omega)
    subst h0
    clear e5 e4 e2 e3
    go_enter Tryz.func118, Tryz.ntmps118
    go_wp2_with fail
    go_ret
    exact ⟨_, rfl, Row.nil _ _, (fun k hk => by cases hk), Rb.refl _⟩
  | some ad =>
    obtain ⟨i0, hi0, hz0, hzs, hzb⟩ := info_parts info_V
    obtain ⟨W0, hW0⟩ : ∃ W0, W0 = w.alloc (.cells #[] 32) := ⟨_, rfl⟩
    have hr0 : Row W0 32 (.slice (some ⟨w.heap.size, 0, none⟩) 0 0) [] := by
      have hb : Blk W0 w.heap.size 32 ([] ++ []) := by rw [hW0]; exact Blk.new w _ []
      exact Row.mk' hb (Nat.zero_le _)
    have hrb : Rb w W0 := by rw [hW0]; exact (Below.refl _ w).alloc (Nat.le_refl _) _
    have hsl : Sl W0 (.slice (some ad) xs.length cap) xs := Sl.rb ⟨_, _, rfl, e2, e3, e4, e5⟩ hrb
    obtain ⟨v', w', hra, h2, h3, h4⟩ := run_append_row (P := Tryz.prog) hu hi0 hz0 hzs hzb (by omega) rfl hr0 hsl h1 (by simp; omega)
    have hR : Rb w w' := Below.grown (show Below w.heap.size w W0 from hrb) h3 hrb.size (fun k hk => by cases hk; exact Nat.le_refl _)
    have hN : ∀ k, v'.ownBlock = some k → w.heap.size ≤ k := fun k hk => by
      rcases h4 k hk with h | h
      · cases h; exact Nat.le_refl _
      · exact Nat.le_trans hrb.size h
    have HR := Lib.hid hR
    have HN := Lib.hid hN
    have H2 := Lib.hid h2
    obtain ⟨n, hn⟩ : ∃ n, n = xs.length := ⟨_, rfl⟩
    rw [← hn] at hra ⊢
    rw [hW0] at hra
    clear hR hN h2 h3 h4 hi0 hz0 hzs hzb hr0 hrb hsl hn hW0 e2 e3 e4 e5 hbig h1
    go_enter Tryz.func118, Tryz.ntmps118
    go_wp2_with (at_builtin; refine wpList_run_append rfl rfl rfl rfl (hra _) ?_)
    go_ret
    exact ⟨_, rfl, H2.out, HN.out, HR.out⟩


set_option maxHeartbeats 4000000 in
set_option maxRecDepth 100000 in
theorem cut_any_V (w : World) (v : Value) (at_ : Nat) (xs : List Value) (hr : Row w 32 v xs) (ha : at_ < xs.length) (hbig : xs.length ≤ 1000000) (h1 : ∀ u ∈ xs, u.oneCell' = true) :
    Calls Tryz.prog 153 #[v, i64 at_] w fun e w' => ∃ v1 v2, e = .returned (.tuple #[v1, v2]) ∧ Re w 32 v (xs.take at_) v1 w' ∧ v1.ownBlock = v.ownBlock ∧ Row w' 32 v2 (xs.drop at_) ∧ (∀ k, v2.ownBlock = some k → w.heap.size ≤ k) := by
  have HR := Lib.hid hr
  rcases hr.cases' with ⟨rfl, rfl⟩ | ⟨g, rest, rfl, hb, hm⟩
  · simp at ha
  have hsl : Sl w (.slice (some ⟨g, at_, none⟩) (xs.length - at_) (xs.length + rest.length - at_)) (xs.drop at_) := by
    refine ⟨_, _, by rw [List.length_drop], by rw [List.length_drop]; omega, by omega, (fun h => by cases h), fun ad e t u hu => ?_⟩
    cases e
    rw [Addr.add_lit, hb.cell]
    have ht := (List.getElem?_eq_some_iff.1 hu).1
    rw [List.length_drop] at ht
    rw [List.getElem?_append_left (by omega)]
    rwa [List.getElem?_drop] at hu
  have C := Lib.hid (clone_any_V w _ _ hsl (by rw [List.length_drop]; omega) (fun u hu => h1 u (List.mem_of_mem_drop hu)))
  have D := fun w' h => Lib.hid (delete_any_V w' (.slice (some ⟨g, 0, none⟩) xs.length (xs.length + rest.length)) at_ xs.length xs h ha (Nat.le_refl _) h1)
  obtain ⟨n, hn⟩ : ∃ n, n = xs.length := ⟨_, rfl⟩
  obtain ⟨cap, hcap⟩ : ∃ cap, cap = xs.length + rest.length := ⟨_, rfl⟩
  have hnc : n ≤ cap := by omega
  rw [← hcap] at HR C D hm ⊢
  rw [← hn] at HR C D ha ⊢
  have HB := Lib.hid hb
  have HN := Lib.hid hn
  clear hr hsl hb hcap hn hbig h1
  unfold maxLen at hm
  have hci : ¬ (cap = at_) := by omega
  have hic : at_ ≤ cap := by omega
  have hin : at_ ≤ n := by omega
  go_enter Tryz.func153, Tryz.ntmps153
  go_wp2_with (go_at_call 118; refine C.out.mono ?_)
  rintro e w1 ⟨v2, rfl, k1, k2, k3⟩
  have D1 := Lib.hid ((D w1 (HR.out.rb k3)).out)
  have K1 := Lib.hid k1
  have K2 := Lib.hid k2
  have K3 := Lib.hid k3
  clear k1 k2 k3 D
  go_wp2_with (go_at_call 149; refine D1.out.mono ?_)
  rintro e w2 ⟨v1, rfl, r1, r2⟩
  have R1 := Lib.hid r1
  have R2 := Lib.hid r2
  clear r1 r2
  go_wp2_with fail
  go_ret2
  have r1 := R1.out
  have k1 := K1.out
  have k2 := K2.out
  have k3 := K3.out
  refine ⟨v1, v2, rfl, ⟨?_, ?_, ?_⟩, R2.out, ?_, k2⟩
  · have := r1.row
    rwa [List.drop_eq_nil_of_le (by rw [HN.out]; exact Nat.le_refl _), List.append_nil] at this
  · exact (Fr.of_rb k3).trans r1.fr (fun k hk => .inl hk)
  · intro k hk
    rcases r1.new k hk with h | h
    · exact .inl h
    · have := k3.size; exact .inr (by omega)
  · exact k1.fr r1.fr (fun k hk h => by
      have h1 := k2 k hk
      have h2 := HB.out.lt
      have h3 : g = k := by simpa [Value.ownBlock] using h
      omega)

end Go.Proofs.YtjfpeklfgnajoaaGreat.L6


namespace Go.Proofs.YtjfpeklfgnajoaaGreat.L6
open Go.ChangeShapes Go.WideShapes Go.ChangeAt Go.RowKit By Reg
set_option linter.unusedVariables false
set_option linter.unusedSimpArgs false

theorem info_Q : (Tryz.prog.info? 91).map (fun i => (i.zero, i.size, i.bytes)) = some (some (.pointer none), 1, 8) := by kernel_rfl


set_option maxHeartbeats 4000000 in
set_option maxRecDepth 100000 in
/-- slices.Insert in place -/
theorem insert_shift_Q (w : World) (g i vb : Nat) (xs rest : List Value) (x : Value) (hb : Blk w g 91 (xs ++ rest)) (hv : Blk w vb 91 [x]) (hne : vb ≠ g) (hi : i < xs.length) (hr : 0 < rest.length) (hbig : xs.length + rest.length ≤ maxLen) (h1 : ∀ u ∈ xs, u.oneCell' = true) (hx : x.oneCell' = true) :
    Calls Tryz.prog 139 #[.slice (some ⟨g, 0, none⟩) xs.length (xs.length + rest.length), i64 i, .slice (some ⟨vb, 0, none⟩) 1 1] w fun e w' =>
      e = .returned (.slice (some ⟨g, 0, none⟩) (xs.length + 1) (xs.length + rest.length)) ∧ Blk w' g 91 (xs.take i ++ x :: xs.drop i ++ rest.drop 1) ∧ Fr (fun k => k = g) w w' := by
  have hu := Tryz.underlying158
  have hsz : (Tryz.prog.info? 91).map (·.size) = some 1 := by kernel_rfl
  have hov : ∀ lb cb, (callFunc 157 #[.slice (some ⟨vb, 0, none⟩) 1 1, .slice (some ⟨g, i + 1, none⟩) lb cb]).run Tryz.prog w = .ok (.value (.bool false)) w := fun lb cb => by
    rw [run_callFunc_extern Tryz.func157 (by kernel_rfl) (by kernel_rfl) (by kernel_rfl) (e := Extern.SlicesOverlaps.overlaps #[158, 158] #[4]) (by kernel_rfl),
      Lib.run_overlaps_apart w 158 4 91 hu 1 (fun w => by kernel_rfl) ⟨vb, 0, none⟩ ⟨g, i + 1, none⟩ 1 1 lb cb hne _ _ _ _ hv.shape hb.shape (by rw [List.length_append]; omega) (hv.frozen _) (hv.frozen _)]
    rfl
  have hd : Blk w.drew g 91 (xs ++ rest) := hb
  obtain ⟨W1, hr1, hb1, hw1⟩ := run_copy_blk (P := Tryz.prog) (w := w.drew) (off := i + 1) hd hu hsz (xs.length + 1 - (i + 1)) (xs.length + rest.length - (i + 1)) (xs.length + 1 - i) (xs.length + rest.length - i) ⟨g, i, none⟩ (news := xs.drop i)
    (by rw [List.length_drop]; simp only [Nat.min_def]; split <;> omega) (fun j v hj => by
      rw [Addr.add_lit, hd.cell]
      have hj' := (List.getElem?_eq_some_iff.1 hj).1
      rw [List.length_drop] at hj'
      rw [List.getElem?_append_left (by omega)]
      rwa [List.getElem?_drop] at hj) (by rw [List.length_drop, List.length_append]; omega) (fun v hv => h1 v (List.mem_of_mem_drop hv))
  have hv1 : Blk W1 vb 91 [x] := hv.same (hw1.block vb hne)
  obtain ⟨W2, hr2, hb2, hw2⟩ := run_copy_blk (P := Tryz.prog) (w := W1) (off := i) hb1 hu hsz (xs.length + 1 - i) (xs.length + rest.length - i) 1 1 ⟨vb, 0, none⟩ (news := [x])
    (by simp only [List.length_singleton, Nat.min_def]; split <;> omega) (fun j v hj => by
      rw [Addr.add_lit, hv1.cell, Nat.zero_add]; exact hj) (by rw [length_splice _ _ _ (by rw [List.length_drop, List.length_append]; omega), List.length_append]; simp; omega) (fun v hv => by simp at hv; subst hv; exact hx)
  have hB : Blk W2 g 91 (xs.take i ++ x :: xs.drop i ++ rest.drop 1) := by
    have e : splice (splice (xs ++ rest) (i + 1) (xs.drop i)) i [x] = xs.take i ++ x :: xs.drop i ++ rest.drop 1 := by
      obtain ⟨A, B, rfl, rfl⟩ : ∃ A B, xs = A ++ B ∧ A.length = i := ⟨xs.take i, xs.drop i, by simp, by simp; omega⟩
      obtain ⟨b, B, rfl⟩ : ∃ b B', B = b :: B' := by cases B with | nil => simp at hi | cons b B => exact ⟨b, B, rfl⟩
      rw [splice_eq, splice_eq]
      simp [List.take_append, List.drop_append]
      rw [List.take_of_length_le (by omega), List.drop_eq_nil_of_le (by omega : A.length ≤ A.length + 1 + (B.length + 1)), show A.length + 1 + (B.length + 1) - A.length = B.length + 1 + 1 by omega]
      simp
    rw [← e]
    exact hb2
  have hF : Fr (fun k => k = g) w W2 := (((Fr.refl (fun k => k = g) w).drew).wrote hw1 (.inl rfl)).wrote hw2 (.inl rfl)
  have HB := Lib.hid hB
  have HF := Lib.hid hF
  obtain ⟨n, hn⟩ : ∃ n, n = xs.length := ⟨_, rfl⟩
  obtain ⟨m, hm⟩ : ∃ m, m = rest.length := ⟨_, rfl⟩
  rw [← hn] at hi hr1 hr2 hbig ⊢
  rw [← hm] at hr hr1 hr2 hbig ⊢
  rw [show (xs.drop i).length = n - i by rw [List.length_drop, hn]] at hr1
  clear hB hF hb hv hb1 hw1 hv1 hb2 hw2 hn hm h1 hx hd
  have hz2 : ((i : Int) == (n : Int)) = false := beq_eq_false_iff_ne.2 (by omega)
  have hz3 : ¬ ((n : Int) + 1 > (n : Int) + (m : Int)) := by omega
  unfold maxLen at hbig
  have hw1 : IntKind.i64.wrap ((i : Int) + 1) = (i : Int) + 1 := by rw [IntKind.wrap_i64]; omega
  have hw2 : IntKind.i64.wrap ((n : Int) + 1) = (n : Int) + 1 := by rw [IntKind.wrap_i64]; omega
  have htn : ((i : Int) + 1).toNat = i + 1 := by omega
  have htn2 : ((n : Int) + 1).toNat = n + 1 := by omega
  have hb2 : ¬ (n + m = i + 1) := by omega
  have hb4 : ¬ (n + m = i) := by omega
  have hin : i ≤ n := by omega
  have hb1 : (0 : Int) ≤ (i : Int) + 1 := by omega
  have hb3 : (i : Int) ≤ (n : Int) + 1 := by omega
  have mixed : Tryz.prog.follows Departure.mixedOrders = true := by kernel_rfl
  go_enter Tryz.func139, Tryz.ntmps139
  go_wp2_with (simp only [hov])
  go_region_law_o (refine step_run_copy rfl rfl (by simp [Act.eval, Act.put]) (by simp [Act.eval, Act.put]) (hr1 _) ?_)
  go_wp2_with (at_builtin; refine wpList_run_copy rfl rfl rfl rfl (hr2 _) ?_)
  go_ret
  exact ⟨rfl, HB.out, HF.out⟩



set_option maxHeartbeats 4000000 in
set_option maxRecDepth 100000 in
/-- slices.Insert where there is no room, ahead of the end -/
theorem insert_grow_Q (w : World) (g i vb : Nat) (xs : List Value) (x : Value) (hb : Blk w g 91 xs) (hv : Blk w vb 91 [x]) (hi : i < xs.length) (hbig : xs.length ≤ 1000000) (h1 : ∀ u ∈ xs, u.oneCell' = true) (hx : x.oneCell' = true) :
    Calls Tryz.prog 139 #[.slice (some ⟨g, 0, none⟩) xs.length xs.length, i64 i, .slice (some ⟨vb, 0, none⟩) 1 1] w fun e w' =>
      ∃ v', e = .returned v' ∧ Row w' 91 v' (xs.take i ++ x :: xs.drop i) ∧ v'.ownBlock = some w.heap.size ∧ Rb w w' := by
  have hu := Tryz.underlying158
  have hui := Tryz.underlying3
  have hsz : (Tryz.prog.info? 91).map (·.size) = some 1 := by kernel_rfl
  obtain ⟨i0, hi0, hz0, hzs, hzb⟩ := info_parts info_Q
  have hold : (Builtin.firstCells i0.size i (.slice (some ⟨g, 0, none⟩) i xs.length)).run Tryz.prog w.drew = .ok (xs.take i).toArray w.drew := by
    rw [hzs]
    exact run_firstCells_some w.drew 1 i ⟨g, 0, none⟩ i xs.length (xs.take i) (by rw [List.length_take]; omega) (fun j v hj => by
      rw [Addr.add_lit, Nat.zero_add]
      show w.cell? _ = _
      rw [hb.cell]
      rw [List.getElem?_take] at hj
      split at hj
      · exact hj
      · cases hj)
  obtain ⟨n, hn⟩ : ∃ n, n = xs.length := ⟨_, rfl⟩
  have hik : i + (n + 1 - i) = n + 1 := by omega
  have hra := fun ty => Lib.run_append_grow_zeros w 158 3 ty 91 i0 _ .i64 .i64 hu hui hi0 hz0 (some ⟨g, 0, none⟩) i xs.length (xs.take i) hold (n + 1 - i) (by omega) (by omega) (by omega) (by omega) (by rw [hzb]; omega) (by rw [hzb, hik]; exact growslice_fits (by omega) (by omega))
  rw [hik] at hra
  obtain ⟨G, hG⟩ : ∃ G, G = grownCap w (n + 1) xs.length 91 := ⟨_, rfl⟩
  rw [← hG] at hra
  have hGn : n + 1 ≤ G := by rw [hG]; exact grownCap_ge w _ _ _
  have hG63 : G ≤ maxLen := by rw [hG]; exact grownCap_le_maxLen w _ _ _ (by unfold maxLen; omega)
  obtain ⟨ROW, hROW⟩ : ∃ ROW : List Value, ROW = xs.take i ++ List.replicate (n + 1 - i) (.pointer none) ++ List.replicate (G - (n + 1)) (.pointer none) := ⟨_, rfl⟩
  have hzr : ∀ k, (Builtin.zeroCells ((.pointer none) : Value).cells k) = (List.replicate k ((.pointer none) : Value)).toArray := fun k => by
    apply Array.ext
    · simp [Builtin.zeroCells, Value.cells]
    · intro j h1 h2
      simp [Builtin.zeroCells, Value.cells, Nat.mod_one]
  have hrow : ((xs.take i).toArray ++ Builtin.zeroCells ((.pointer none) : Value).cells (n + 1 - i) ++ Builtin.zeroCells ((.pointer none) : Value).cells (G - (n + 1))) = ROW.toArray := by
    rw [hROW, hzr, hzr]
    simp
  rw [hrow] at hra
  have hRl : ROW.length = G := by rw [hROW]; simp; omega
  obtain ⟨W1, hW1⟩ : ∃ W1, W1 = w.drew.alloc (.cells ROW.toArray 91) := ⟨_, rfl⟩
  rw [← hW1] at hra
  have hb1 : Blk W1 w.heap.size 91 ROW := by rw [hW1]; exact Blk.new w.drew _ _
  have hrb1 : Rb w W1 := by rw [hW1]; exact ((Below.refl _ w).drew).alloc (Nat.le_refl _) _
  have hv1 : Blk W1 vb 91 [x] := hv.rb hrb1
  have hgb1 : Blk W1 g 91 xs := hb.rb hrb1
  obtain ⟨W2, hr2, hb2, hw2⟩ := run_copy_blk (P := Tryz.prog) (w := W1) (off := i) hb1 hu hsz (n + 1 - i) (G - i) 1 1 ⟨vb, 0, none⟩ (news := [x])
    (by simp only [List.length_singleton, Nat.min_def]; split <;> omega) (fun j v hj => by
      rw [Addr.add_lit, hv1.cell, Nat.zero_add]; exact hj) (by simp; omega) (fun v hv => by simp at hv; subst hv; exact hx)
  have hgs : g < w.heap.size := hb.lt
  have hgb2 : Blk W2.drew g 91 xs := hgb1.same (hw2.block g (by omega))
  have hb2d : Blk W2.drew w.heap.size 91 (splice ROW i [x]) := hb2
  obtain ⟨W3, hr3, hb3, hw3⟩ := run_copy_blk (P := Tryz.prog) (w := W2.drew) (off := i + 1) hb2d hu hsz (n + 1 - (i + 1)) (G - (i + 1)) (n - i) (n - i) ⟨g, i, none⟩ (news := xs.drop i)
    (by rw [List.length_drop]; simp only [Nat.min_def]; split <;> omega) (fun j v hj => by
      rw [Addr.add_lit, hgb2.cell]
      rwa [List.getElem?_drop] at hj) (by rw [length_splice _ _ _ (by simp; omega), List.length_drop]; omega) (fun v hv => h1 v (List.mem_of_mem_drop hv))
  have hB : Row W3 91 (.slice (some ⟨w.heap.size, 0, none⟩) (n + 1) G) (xs.take i ++ x :: xs.drop i) := by
    have e : splice (splice ROW i [x]) (i + 1) (xs.drop i) = (xs.take i ++ x :: xs.drop i) ++ List.replicate (G - (n + 1)) (.pointer none) := by
      obtain ⟨A, B, rfl, rfl⟩ : ∃ A B, xs = A ++ B ∧ A.length = i := ⟨xs.take i, xs.drop i, by simp, by simp; omega⟩
      obtain ⟨k, hk⟩ : ∃ k, n + 1 - A.length = k + 1 := ⟨n - A.length, by rw [List.length_append] at hn; omega⟩
      have hkB : B.length = k := by rw [List.length_append] at hn; omega
      rw [hROW, hk, splice_eq, splice_eq]
      simp [List.take_append, List.drop_append, List.replicate_succ]
      rw [List.take_of_length_le (by omega), List.drop_eq_nil_of_le (by omega : A.length ≤ A.length + 1 + B.length), hkB]
      simp
      rw [show A.length + 1 + k - A.length = k + 1 by omega]
      simp
      rw [List.drop_eq_nil_of_le (by omega : A.length ≤ A.length + 1)]
      simp
    rw [e] at hb3
    have hl : (xs.take i ++ x :: xs.drop i).length = n + 1 := by simp; omega
    have := Row.mk' hb3 (by rw [hl, List.length_replicate]; omega)
    rw [hl, List.length_replicate, show n + 1 + (G - (n + 1)) = G by omega] at this
    exact this
  have hR : Rb w W3 := by
    have a : Below w.heap.size w W1 := hrb1
    have b := Wrote.below a hw2 (Nat.le_refl _)
    exact Wrote.below b.drew hw3 (Nat.le_refl _)
  have HB := Lib.hid hB
  have HR := Lib.hid hR
  rw [← hn] at hi hbig hra ⊢
  rw [show (xs.drop i).length = n - i by rw [List.length_drop, hn]] at hr3
  clear hB hR hb hv hb1 hrb1 hv1 hgb1 hb2 hw2 hgs hgb2 hb2d hb3 hw3 hrow hzr hRl hROW hold hW1 hG hn h1 hx hi0 hz0 hzs hzb
  unfold maxLen at hG63
  have hz2 : ((i : Int) == (n : Int)) = false := beq_eq_false_iff_ne.2 (by omega)
  have hz3 : (n : Int) + 1 > (n : Int) := by omega
  have hkk : (n : Int) + 1 - (i : Int) = ((n + 1 - i : Nat) : Int) := by omega
  have hw1 : IntKind.i64.wrap ((i : Int) + 1) = (i : Int) + 1 := by rw [IntKind.wrap_i64]; omega
  have hw2 : IntKind.i64.wrap ((n : Int) + 1) = (n : Int) + 1 := by rw [IntKind.wrap_i64]; omega
  have htn : ((i : Int) + 1).toNat = i + 1 := by omega
  have hin : i ≤ n := by omega
  have hb1 : (0 : Int) ≤ (i : Int) + 1 := by omega
  have hb3 : (i : Int) ≤ (n : Int) + 1 := by omega
  have hGi : ¬ (G = i) := by omega
  have hGi1 : ¬ (G = i + 1) := by omega
  have hci : ¬ (n = i) := by omega
  have mixed : Tryz.prog.follows Departure.mixedOrders = true := by kernel_rfl
  go_enter Tryz.func139, Tryz.ntmps139
  go_wp2_with (at_builtin; first | (refine wpList_run_append rfl rfl rfl rfl (hra _) ?_) | (refine wpList_run_copy rfl rfl rfl rfl (hr2 _) ?_))
  go_region_law_o (refine step_run_copy rfl rfl (by simp [Act.eval, Act.put]) (by simp [Act.eval, Act.put]) (hr3 _) ?_)
  go_wp2
  go_ret
  exact ⟨_, rfl, HB.out, rfl, HR.out⟩



set_option maxHeartbeats 4000000 in
set_option maxRecDepth 100000 in
/-- slices.Insert at the end -/
theorem insert_end_Q (w : World) (v : Value) (vb : Nat) (xs : List Value) (x : Value) (hr : Row w 91 v xs) (hv : Blk w vb 91 [x]) (hbig : xs.length ≤ 1000000) (hx : x.oneCell' = true) :
    Calls Tryz.prog 139 #[v, i64 xs.length, .slice (some ⟨vb, 0, none⟩) 1 1] w fun e w' => ∃ v', e = .returned v' ∧ Re w 91 v (xs ++ [x]) v' w' := by
  have hu := Tryz.underlying158
  obtain ⟨i0, hi0, hz0, hzs, hzb⟩ := info_parts info_Q
  have hsl : Sl w (.slice (some ⟨vb, 0, none⟩) 1 1) [x] := ⟨_, 1, rfl, Nat.le_refl _, by unfold maxLen; omega, (fun h => by cases h), fun ad ha j u hj => by
    cases ha
    rw [Addr.add_lit, hv.cell, Nat.zero_add]; exact hj⟩
  obtain ⟨v', w', hra, h2, h3, h4⟩ := run_append_row (P := Tryz.prog) hu hi0 hz0 hzs hzb (by omega) rfl hr hsl (fun u hu => by simp at hu; subst hu; exact hx) (by simp; omega)
  have H : Re w 91 v (xs ++ [x]) v' w' := ⟨h2, (Fr.refl _ w).grown h3 (fun k hk => .inl hk), h4⟩
  have HH := Lib.hid H
  obtain ⟨ao, cap, rfl, hl, hm⟩ := hr.form
  obtain ⟨n, hn⟩ : ∃ n, n = xs.length := ⟨_, rfl⟩
  rw [← hn] at hra hl HH ⊢
  clear hi0 hz0 hzs hzb hsl h2 h3 h4 H hr hv hbig hx
  unfold maxLen at hm
  clear hn
  by_cases hcn : cap = n
  · subst hcn
    go_enter Tryz.func139, Tryz.ntmps139
    go_wp2_with (at_builtin; refine wpList_run_append rfl rfl rfl rfl (hra _) ?_)
    go_ret
    exact ⟨_, rfl, HH.out⟩
  · go_enter Tryz.func139, Tryz.ntmps139
    go_wp2_with (at_builtin; refine wpList_run_append rfl rfl rfl rfl (hra _) ?_)
    go_ret
    exact ⟨_, rfl, HH.out⟩



theorem insert_any_Q (w : World) (v : Value) (i vb : Nat) (xs : List Value) (x : Value) (hr : Row w 91 v xs) (hv : Blk w vb 91 [x]) (hne : v.ownBlock ≠ some vb) (hi : i ≤ xs.length) (hbig : xs.length ≤ 1000000) (h1 : ∀ u ∈ xs, u.oneCell' = true) (hx : x.oneCell' = true) :
    Calls Tryz.prog 139 #[v, i64 i, .slice (some ⟨vb, 0, none⟩) 1 1] w fun e w' => ∃ v', e = .returned v' ∧ Re w 91 v (xs.take i ++ x :: xs.drop i) v' w' := by
  by_cases he : i = xs.length
  · subst he
    refine (insert_end_Q w v vb xs x hr hv hbig hx).mono ?_
    rintro e w' ⟨v', rfl, h⟩
    refine ⟨v', rfl, ?_⟩
    simpa using h
  · rcases hr.cases' with ⟨rfl, rfl⟩ | ⟨g, rest, rfl, h2, h3⟩
    · simp at hi; exact absurd hi he
    · have hg : vb ≠ g := fun e => hne (by rw [e]; rfl)
      by_cases h0 : rest.length = 0
      · have : rest = [] := List.eq_nil_of_length_eq_zero h0
        subst this
        rw [List.append_nil] at h2
        refine (insert_grow_Q w g i vb xs x h2 hv (by omega) hbig h1 hx).mono ?_
        rintro e w' ⟨v', rfl, k1, k2, k3⟩
        refine ⟨v', rfl, k1, Fr.of_rb k3, fun k hk => ?_⟩
        rw [k2] at hk
        cases hk
        exact .inr (Nat.le_refl _)
      · refine (insert_shift_Q w g i vb xs rest x h2 hv hg (by omega) (by omega) h3 h1 hx).mono ?_
        rintro e w' ⟨rfl, k1, k2⟩
        refine ⟨_, rfl, ?_, k2.mono (fun k hk _ => by subst hk; rfl), fun k hk => .inl hk⟩
        have hl : (xs.take i ++ x :: xs.drop i).length = xs.length + 1 := by simp; omega
        have := Row.mk' k1 (by rw [hl, List.length_drop]; omega)
        rw [hl, List.length_drop, show xs.length + 1 + (rest.length - 1) = xs.length + rest.length by omega] at this
        exact this



set_option maxHeartbeats 4000000 in
set_option maxRecDepth 100000 in
theorem delete_any_Q (w : World) (v : Value) (i j : Nat) (xs : List Value) (hr : Row w 91 v xs) (hij : i < j) (hj : j ≤ xs.length) (h1 : ∀ u ∈ xs, u.oneCell' = true) :
    Calls Tryz.prog 170 #[v, i64 i, i64 j] w fun e w' => ∃ v', e = .returned v' ∧ Re w 91 v (xs.take i ++ xs.drop j) v' w' ∧ v'.ownBlock = v.ownBlock := by
  rcases hr.cases' with ⟨rfl, rfl⟩ | ⟨g, rest, rfl, hb, hm⟩
  · simp at hj; omega
  have hu := Tryz.underlying158
  obtain ⟨i0, hi0, hz0, hzs, hzb⟩ := info_parts info_Q
  obtain ⟨n, hn⟩ : ∃ n, n = xs.length := ⟨_, rfl⟩
  obtain ⟨cap, hcap⟩ : ∃ cap, cap = xs.length + rest.length := ⟨_, rfl⟩
  have hd : Blk w.drew g 91 (xs ++ rest) := hb
  obtain ⟨A, hA, hsrc⟩ : ∃ A : Addr, (if cap = j then some (⟨g, 0, none⟩ : Addr) else some ⟨g, j, none⟩) = some A ∧ ∀ t u, (xs.drop j)[t]? = some u → w.drew.cell? (A.add t) = some u := by
    by_cases h : cap = j
    · refine ⟨⟨g, 0, none⟩, by simp [h], fun t u hu => ?_⟩
      rw [List.drop_eq_nil_of_le (by omega)] at hu
      cases hu
    · refine ⟨⟨g, j, none⟩, by simp [h], fun t u hu => ?_⟩
      rw [Addr.add_lit, hd.cell]
      have ht := (List.getElem?_eq_some_iff.1 hu).1
      rw [List.length_drop] at ht
      rw [List.getElem?_append_left (by omega)]
      rwa [List.getElem?_drop] at hu
  obtain ⟨W1, hr1, hb1, hw1⟩ := run_append_blk (P := Tryz.prog) (w := w.drew) (off := 0) (n := i) (cap := cap) hd hu hi0 hzs A (n - j) (cap - j) (news := xs.drop j) (by rw [List.length_drop, hn]) hsrc (by omega) (by rw [List.length_drop, List.length_append]; omega) (fun v hv => h1 v (List.mem_of_mem_drop hv))
  have hl1 : (splice (xs ++ rest) (0 + i) (xs.drop j)).length = cap := by rw [length_splice _ _ _ (by rw [List.length_drop, List.length_append]; omega), List.length_append, hcap]
  obtain ⟨W2, hr2, hb2, hw2⟩ := run_clear_blk (P := Tryz.prog) (w := W1) (off := i + (n - j)) (n := n - (i + (n - j))) (c := cap - (i + (n - j))) hb1 hu Tryz.zeroValue91 rfl rfl (by omega) (by rw [hl1]; omega)
  have hB : Row W2 91 (.slice (some ⟨g, 0, none⟩) (i + (n - j)) cap) (xs.take i ++ xs.drop j) := by
    obtain ⟨rest', e⟩ : ∃ rest', splice (splice (xs ++ rest) (0 + i) (xs.drop j)) (i + (n - j)) (List.replicate (n - (i + (n - j))) (.pointer none)) = (xs.take i ++ xs.drop j) ++ rest' := by
      refine ⟨List.replicate (n - (i + (n - j))) (.pointer none) ++ (splice (xs ++ rest) (0 + i) (xs.drop j)).drop (i + (n - j) + (n - (i + (n - j)))), ?_⟩
      rw [splice_eq (splice _ _ _), List.length_replicate]
      rw [show (splice (xs ++ rest) (0 + i) (xs.drop j)).take (i + (n - j)) = xs.take i ++ xs.drop j by
        rw [splice_eq, Nat.zero_add, List.take_append_of_le_length (l₁ := xs) (by omega), ← List.append_assoc, List.take_append_of_le_length (by simp; omega)]
        exact List.take_of_length_le (by simp; omega)]
    have hl : (xs.take i ++ xs.drop j).length = i + (n - j) := by simp; omega
    have hl2 : ((xs.take i ++ xs.drop j) ++ rest').length = cap := by
      rw [← e, length_splice _ _ _ (by rw [hl1, List.length_replicate]; omega), hl1]
    rw [List.length_append, hl] at hl2
    rw [e] at hb2
    have := Row.mk' hb2 (by rw [hl, hl2, hcap]; exact hm)
    rw [hl, hl2] at this
    exact this
  have hF : Fr (fun k => (Value.slice (some ⟨g, 0, none⟩) xs.length (xs.length + rest.length)).ownBlock = some k) w W2 := (((Fr.refl (fun k => (Value.slice (some ⟨g, 0, none⟩) xs.length (xs.length + rest.length)).ownBlock = some k) w).drew).wrote hw1 (.inl rfl)).wrote hw2 (.inl rfl)
  have H : Re w 91 (.slice (some ⟨g, 0, none⟩) xs.length (xs.length + rest.length)) (xs.take i ++ xs.drop j) (.slice (some ⟨g, 0, none⟩) (i + (n - j)) cap) W2 := ⟨hB, hF, fun k hk => .inl hk⟩
  have HH := Lib.hid H
  have hnc : n ≤ cap := by omega
  rw [← hcap] at hm HH ⊢
  rw [← hn] at hj HH ⊢
  clear hB hF H hr h1 hi0 hz0 hzs hzb hb hd hsrc hb1 hw1 hb2 hw2 hl1
  clear hcap hn
  unfold maxLen at hm
  have hz2 : ((i : Int) == (j : Int)) = false := beq_eq_false_iff_ne.2 (by omega)
  have hic : i ≤ cap := by omega
  have hjc : j ≤ cap := by omega
  have hij' : i ≤ j := by omega
  have hin : i ≤ n := by omega
  have hni : ¬ (n = i) := by omega
  have hci : ¬ (cap = i) := by omega
  have hq : ¬ (cap = i + (n - j)) := by omega
  have hq1 : i + (n - j) ≤ n := by omega
  have hq2 : i + (n - j) ≤ cap := by omega
  have mixed : Tryz.prog.follows Departure.mixedOrders = true := by kernel_rfl
  go_enter Tryz.func170, Tryz.ntmps170
  go_wp2_with fail
  go_region_law_o (refine step_run_append rfl rfl (by simp [Act.eval, Act.put]) (by simp [Act.eval, Act.put]) (hr1 _) ?_)
  go_wp2_with (at_builtin; refine wpList_run_clear rfl rfl rfl (hr2 _) ?_)
  go_ret
  exact ⟨_, rfl, HH.out, rfl⟩


set_option maxHeartbeats 4000000 in
set_option maxRecDepth 100000 in
theorem clone_any_Q (w : World) (v : Value) (xs : List Value) (hs : Sl w v xs) (hbig : xs.length ≤ 1000000) (h1 : ∀ u ∈ xs, u.oneCell' = true) :
    Calls Tryz.prog 173 #[v] w fun e w' => ∃ v', e = .returned v' ∧ Row w' 91 v' xs ∧ (∀ k, v'.ownBlock = some k → w.heap.size ≤ k) ∧ Rb w w' := by
  have hu := Tryz.underlying158
  obtain ⟨ao, cap, rfl, e2, e3, e4, e5⟩ := hs
  have q22 : ∀ (w : World) (a : Option Addr) (n c n' c' : Nat), (binOp .eql 158 (.slice a n c) (.slice none n' c')).run Tryz.prog w = .ok (.bool a.isNone) w := fun w a n c n' c' => Lib.run_eql_slice_nil w _ _ a n c n' c' hu
  cases ao with
  | none =>
    have hc := e4 rfl
    have h0 : xs = [] := List.eq_nil_of_length_eq_zero (by omega)
    subst h0
    clear e5 e4 e2 e3
    go_enter Tryz.func173, Tryz.ntmps173
    go_wp2_with fail
    go_ret
    exact ⟨_, rfl, Row.nil _ _, (fun k hk => by cases hk), Rb.refl _⟩
  | some ad =>
    obtain ⟨i0, hi0, hz0, hzs, hzb⟩ := info_parts info_Q
    obtain ⟨W0, hW0⟩ : ∃ W0, W0 = w.alloc (.cells #[] 91) := ⟨_, rfl⟩
    have hr0 : Row W0 91 (.slice (some ⟨w.heap.size, 0, none⟩) 0 0) [] := by
      have hb : Blk W0 w.heap.size 91 ([] ++ []) := by rw [hW0]; exact Blk.new w _ []
      exact Row.mk' hb (Nat.zero_le _)
    have hrb : Rb w W0 := by rw [hW0]; exact (Below.refl _ w).alloc (Nat.le_refl _) _
    have hsl : Sl W0 (.slice (some ad) xs.length cap) xs := Sl.rb ⟨_, _, rfl, e2, e3, e4, e5⟩ hrb
    obtain ⟨v', w', hra, h2, h3, h4⟩ := run_append_row (P := Tryz.prog) hu hi0 hz0 hzs hzb (by omega) rfl hr0 hsl h1 (by simp; omega)
    have hR : Rb w w' := Below.grown (show Below w.heap.size w W0 from hrb) h3 hrb.size (fun k hk => by cases hk; exact Nat.le_refl _)
    have hN : ∀ k, v'.ownBlock = some k → w.heap.size ≤ k := fun k hk => by
      rcases h4 k hk with h | h
      · cases h; exact Nat.le_refl _
      · exact Nat.le_trans hrb.size h
    have HR := Lib.hid hR
    have HN := Lib.hid hN
    have H2 := Lib.hid h2
    obtain ⟨n, hn⟩ : ∃ n, n = xs.length := ⟨_, rfl⟩
    rw [← hn] at hra ⊢
    rw [hW0] at hra
    clear hR hN h2 h3 h4 hi0 hz0 hzs hzb hr0 hrb hsl hn hW0 e2 e3 e4 e5 hbig h1
    go_enter Tryz.func173, Tryz.ntmps173
    go_wp2_with (at_builtin; refine wpList_run_append rfl rfl rfl rfl (hra _) ?_)
    go_ret
    exact ⟨_, rfl, H2.out, HN.out, HR.out⟩


set_option maxHeartbeats 4000000 in
set_option maxRecDepth 100000 in
theorem cut_any_Q (w : World) (v : Value) (at_ : Nat) (xs : List Value) (hr : Row w 91 v xs) (ha : at_ < xs.length) (hbig : xs.length ≤ 1000000) (h1 : ∀ u ∈ xs, u.oneCell' = true) :
    Calls Tryz.prog 154 #[v, i64 at_] w fun e w' => ∃ v1 v2, e = .returned (.tuple #[v1, v2]) ∧ Re w 91 v (xs.take at_) v1 w' ∧ v1.ownBlock = v.ownBlock ∧ Row w' 91 v2 (xs.drop at_) ∧ (∀ k, v2.ownBlock = some k → w.heap.size ≤ k) := by
  have HR := Lib.hid hr
  rcases hr.cases' with ⟨rfl, rfl⟩ | ⟨g, rest, rfl, hb, hm⟩
  · simp at ha
  have hsl : Sl w (.slice (some ⟨g, at_, none⟩) (xs.length - at_) (xs.length + rest.length - at_)) (xs.drop at_) := by
    refine ⟨_, _, by rw [List.length_drop], by rw [List.length_drop]; omega, by omega, (fun h => by cases h), fun ad e t u hu => ?_⟩
    cases e
    rw [Addr.add_lit, hb.cell]
    have ht := (List.getElem?_eq_some_iff.1 hu).1
    rw [List.length_drop] at ht
    rw [List.getElem?_append_left (by omega)]
    rwa [List.getElem?_drop] at hu
  have C := Lib.hid (clone_any_Q w _ _ hsl (by rw [List.length_drop]; omega) (fun u hu => h1 u (List.mem_of_mem_drop hu)))
  have D := fun w' h => Lib.hid (delete_any_Q w' (.slice (some ⟨g, 0, none⟩) xs.length (xs.length + rest.length)) at_ xs.length xs h ha (Nat.le_refl _) h1)
  obtain ⟨n, hn⟩ : ∃ n, n = xs.length := ⟨_, rfl⟩
  obtain ⟨cap, hcap⟩ : ∃ cap, cap = xs.length + rest.length := ⟨_, rfl⟩
  have hnc : n ≤ cap := by omega
  rw [← hcap] at HR C D hm ⊢
  rw [← hn] at HR C D ha ⊢
  have HB := Lib.hid hb
  have HN := Lib.hid hn
  clear hr hsl hb hcap hn hbig h1
  unfold maxLen at hm
  have hci : ¬ (cap = at_) := by omega
  have hic : at_ ≤ cap := by omega
  have hin : at_ ≤ n := by omega
  go_enter Tryz.func154, Tryz.ntmps154
  go_wp2_with (go_at_call 173; refine C.out.mono ?_)
  rintro e w1 ⟨v2, rfl, k1, k2, k3⟩
  have D1 := Lib.hid ((D w1 (HR.out.rb k3)).out)
  have K1 := Lib.hid k1
  have K2 := Lib.hid k2
  have K3 := Lib.hid k3
  clear k1 k2 k3 D
  go_wp2_with (go_at_call 170; refine D1.out.mono ?_)
  rintro e w2 ⟨v1, rfl, r1, r2⟩
  have R1 := Lib.hid r1
  have R2 := Lib.hid r2
  clear r1 r2
  go_wp2_with fail
  go_ret2
  have r1 := R1.out
  have k1 := K1.out
  have k2 := K2.out
  have k3 := K3.out
  refine ⟨v1, v2, rfl, ⟨?_, ?_, ?_⟩, R2.out, ?_, k2⟩
  · have := r1.row
    rwa [List.drop_eq_nil_of_le (by rw [HN.out]; exact Nat.le_refl _), List.append_nil] at this
  · exact (Fr.of_rb k3).trans r1.fr (fun k hk => .inl hk)
  · intro k hk
    rcases r1.new k hk with h | h
    · exact .inl h
    · have := k3.size; exact .inr (by omega)
  · exact k1.fr r1.fr (fun k hk h => by
      have h1 := k2 k hk
      have h2 := HB.out.lt
      have h3 : g = k := by simpa [Value.ownBlock] using h
      omega)

end Go.Proofs.YtjfpeklfgnajoaaGreat.L6

namespace Go.Proofs.YtjfpeklfgnajoaaGreat.L6
open Go.ChangeShapes Go.WideShapes Go.ChangeAt Go.RowKit By Reg
set_option linter.unusedVariables false

structure Nd where
  b : Nat
  kv : Value
  vv : Value
  pv : Value
  ks : List Int
  vs : List SV
  ps : List Nat

/-- the node's own blocks -/
def Nd.has (N : Nd) (k : Nat) : Prop := k = N.b ∨ N.kv.ownBlock = some k ∨ N.vv.ownBlock = some k ∨ N.pv.ownBlock = some k

structure NodeAt (w : World) (N : Nd) : Prop where
  blk : Blk w N.b 160 [N.kv, N.vv, N.pv]
  rk : Row w 2 N.kv (N.ks.map i64)
  rv : Row w 32 N.vv (N.vs.map sv)
  rp : Row w 91 N.pv (N.ps.map ptrv)

theorem i64_one {xs : List Int} : ∀ u ∈ xs.map i64, u.oneCell' = true := fun u h => by
  obtain ⟨x, _, rfl⟩ := List.mem_map.1 h; rfl
theorem sv_one {xs : List SV} : ∀ u ∈ xs.map sv, u.oneCell' = true := fun u h => by
  obtain ⟨x, _, rfl⟩ := List.mem_map.1 h; rfl
theorem ptr_one {xs : List Nat} : ∀ u ∈ xs.map ptrv, u.oneCell' = true := fun u h => by
  obtain ⟨x, _, rfl⟩ := List.mem_map.1 h; rfl

theorem Row.apart {w : World} {e e' : TypeId} {v v' : Value} {xs xs' : List Value} (h : Row w e v xs) (h' : Row w e' v' xs') (hne : e ≠ e') {k : Nat} (hk : v.ownBlock = some k) : v'.ownBlock ≠ some k := fun hk' => by
  obtain ⟨cs, hb⟩ := h.typ k hk
  obtain ⟨cs', hb'⟩ := h'.typ k hk'
  exact hne (hb.inj hb').1

namespace NodeAt
variable {w w' : World} {N : Nd}
theorem lt (h : NodeAt w N) : ∀ k, N.has k → k < w.heap.size := fun k hk => by
  rcases hk with rfl | hk | hk | hk
  · exact h.blk.lt
  · exact h.rk.lt k hk
  · exact h.rv.lt k hk
  · exact h.rp.lt k hk
theorem same (h : NodeAt w N) (e : ∀ k, N.has k → w'.heap[k]? = w.heap[k]?) : NodeAt w' N :=
  ⟨h.blk.same (e _ (.inl rfl)), h.rk.same fun k hk => e k (.inr (.inl hk)), h.rv.same fun k hk => e k (.inr (.inr (.inl hk))), h.rp.same fun k hk => e k (.inr (.inr (.inr hk)))⟩
theorem rb (h : NodeAt w N) (hb : Rb w w') : NodeAt w' N := h.same fun k hk => hb.block k (h.lt k hk)
theorem fr {F : Nat → Prop} (h : NodeAt w N) (hf : Fr F w w') (hF : ∀ k, N.has k → ¬ F k) : NodeAt w' N := h.same fun k hk => hf.block k (h.lt k hk) (hF k hk)
theorem kb (h : NodeAt w N) : N.kv.ownBlock ≠ some N.b := h.rk.not_blk h.blk (by decide)
theorem vb (h : NodeAt w N) : N.vv.ownBlock ≠ some N.b := h.rv.not_blk h.blk (by decide)
theorem pb (h : NodeAt w N) : N.pv.ownBlock ≠ some N.b := h.rp.not_blk h.blk (by decide)
theorem kV (h : NodeAt w N) {k : Nat} (hk : N.kv.ownBlock = some k) : N.vv.ownBlock ≠ some k := h.rk.apart h.rv (by decide) hk
theorem kP (h : NodeAt w N) {k : Nat} (hk : N.kv.ownBlock = some k) : N.pv.ownBlock ≠ some k := h.rk.apart h.rp (by decide) hk
theorem vP (h : NodeAt w N) {k : Nat} (hk : N.vv.ownBlock = some k) : N.pv.ownBlock ≠ some k := h.rv.apart h.rp (by decide) hk
theorem c0 (h : NodeAt w N) : w.cell? ⟨N.b, 0, none⟩ = some N.kv := h.blk.cell 0
theorem c1 (h : NodeAt w N) : w.cell? ⟨N.b, 1, none⟩ = some N.vv := h.blk.cell 1
theorem c2 (h : NodeAt w N) : w.cell? ⟨N.b, 2, none⟩ = some N.pv := h.blk.cell 2
theorem kform (h : NodeAt w N) : ∃ ao cap, N.kv = .slice ao N.ks.length cap ∧ N.ks.length ≤ cap ∧ cap ≤ maxLen := by simpa using h.rk.form
theorem vform (h : NodeAt w N) : ∃ ao cap, N.vv = .slice ao N.vs.length cap ∧ N.vs.length ≤ cap ∧ cap ≤ maxLen := by simpa using h.rv.form
theorem pform (h : NodeAt w N) : ∃ ao cap, N.pv = .slice ao N.ps.length cap ∧ N.ps.length ≤ cap ∧ cap ≤ maxLen := by simpa using h.rp.form
end NodeAt

/-- a cell of a row -/
theorem Row.at_ {w : World} {e : TypeId} {v : Value} {xs : List Value} (h : Row w e v xs) {j : Nat} (hj : j < xs.length) :
    ∃ g cap, v = .slice (some ⟨g, 0, none⟩) xs.length cap ∧ xs.length ≤ cap ∧ cap ≤ maxLen ∧ w.cell? ⟨g, j, none⟩ = some xs[j] := by
  rcases h.cases' with ⟨rfl, rfl⟩ | ⟨g, rest, rfl, h2, h3⟩
  · simp at hj
  · refine ⟨g, _, rfl, by omega, h3, ?_⟩
    rw [h2.cell, List.getElem?_append_left hj, List.getElem?_eq_getElem hj]

/-- the node turned into another one, of the same block -/
structure Nx (w : World) (N : Nd) (w' : World) (N' : Nd) : Prop where
  at_ : NodeAt w' N'
  b : N'.b = N.b
  fr : Fr N.has w w'
  has : ∀ k, N'.has k → N.has k ∨ w.heap.size ≤ k
theorem Nx.of_rb {w w' : World} {N : Nd} (h : NodeAt w N) (hr : Rb w w') : Nx w N w' N := ⟨h.rb hr, rfl, Fr.of_rb hr, fun _ h => .inl h⟩
theorem Nx.trans {w w1 w2 : World} {N N1 N2 : Nd} (h : Nx w N w1 N1) (k : Nx w1 N1 w2 N2) : Nx w N w2 N2 :=
  ⟨k.at_, k.b.trans h.b, h.fr.trans k.fr h.has, fun i hi => by
    rcases k.has i hi with h' | h'
    · exact h.has i h'
    · have := h.fr.size; exact .inr (by omega)⟩
theorem Nx.rb {w w0 w2 : World} {N N2 : Nd} (hr : Rb w w0) (k : Nx w0 N w2 N2) : Nx w N w2 N2 :=
  ⟨k.at_, k.b, (Fr.of_rb hr).trans k.fr fun _ h => .inl h, fun i hi => by
    rcases k.has i hi with h' | h'
    · exact .inl h'
    · have := hr.size; exact .inr (by omega)⟩

/-- the keys' row turned, then stored -/
theorem Nx.keys {w w1 w2 : World} {N : Nd} {kv' : Value} {ks' : List Int} (h : NodeAt w N) (hr : Re w 2 N.kv (ks'.map i64) kv' w1) (hb : Blk w2 N.b 160 [kv', N.vv, N.pv]) (hw : Wrote N.b w1 w2) :
    Nx w N w2 { N with kv := kv', ks := ks' } := by
  have hkb : kv'.ownBlock ≠ some N.b := fun e => by
    rcases hr.new _ e with h' | h'
    · exact h.kb h'
    · have := h.blk.lt; omega
  refine ⟨⟨hb, hr.row.same fun k hk => hw.block k (fun e => hkb (by rw [← e]; exact hk)), ?_, ?_⟩, rfl, ?_, ?_⟩
  · exact (h.rv.fr hr.fr (fun k hk hk' => h.kV hk' hk)).same fun k hk => hw.block k (fun e => h.vb (by rw [← e]; exact hk))
  · exact (h.rp.fr hr.fr (fun k hk hk' => h.kP hk' hk)).same fun k hk => hw.block k (fun e => h.pb (by rw [← e]; exact hk))
  · exact (hr.fr.mono (fun k hk _ => .inr (.inl hk))).wrote hw (.inl (.inl rfl))
  · intro k hk
    rcases hk with hk | hk | hk | hk
    · exact .inl (.inl hk)
    · rcases hr.new k hk with h' | h'
      · exact .inl (.inr (.inl h'))
      · exact .inr h'
    · exact .inl (.inr (.inr (.inl hk)))
    · exact .inl (.inr (.inr (.inr hk)))
theorem Nx.vals {w w1 w2 : World} {N : Nd} {vv' : Value} {vs' : List SV} (h : NodeAt w N) (hr : Re w 32 N.vv (vs'.map sv) vv' w1) (hb : Blk w2 N.b 160 [N.kv, vv', N.pv]) (hw : Wrote N.b w1 w2) :
    Nx w N w2 { N with vv := vv', vs := vs' } := by
  have hkb : vv'.ownBlock ≠ some N.b := fun e => by
    rcases hr.new _ e with h' | h'
    · exact h.vb h'
    · have := h.blk.lt; omega
  refine ⟨⟨hb, ?_, hr.row.same fun k hk => hw.block k (fun e => hkb (by rw [← e]; exact hk)), ?_⟩, rfl, ?_, ?_⟩
  · exact (h.rk.fr hr.fr (fun k hk hk' => h.kV hk hk')).same fun k hk => hw.block k (fun e => h.kb (by rw [← e]; exact hk))
  · exact (h.rp.fr hr.fr (fun k hk hk' => h.vP hk' hk)).same fun k hk => hw.block k (fun e => h.pb (by rw [← e]; exact hk))
  · exact (hr.fr.mono (fun k hk _ => .inr (.inr (.inl hk)))).wrote hw (.inl (.inl rfl))
  · intro k hk
    rcases hk with hk | hk | hk | hk
    · exact .inl (.inl hk)
    · exact .inl (.inr (.inl hk))
    · rcases hr.new k hk with h' | h'
      · exact .inl (.inr (.inr (.inl h')))
      · exact .inr h'
    · exact .inl (.inr (.inr (.inr hk)))
theorem Nx.parts {w w1 w2 : World} {N : Nd} {pv' : Value} {ps' : List Nat} (h : NodeAt w N) (hr : Re w 91 N.pv (ps'.map ptrv) pv' w1) (hb : Blk w2 N.b 160 [N.kv, N.vv, pv']) (hw : Wrote N.b w1 w2) :
    Nx w N w2 { N with pv := pv', ps := ps' } := by
  have hkb : pv'.ownBlock ≠ some N.b := fun e => by
    rcases hr.new _ e with h' | h'
    · exact h.pb h'
    · have := h.blk.lt; omega
  refine ⟨⟨hb, ?_, ?_, hr.row.same fun k hk => hw.block k (fun e => hkb (by rw [← e]; exact hk))⟩, rfl, ?_, ?_⟩
  · exact (h.rk.fr hr.fr (fun k hk hk' => h.kP hk hk')).same fun k hk => hw.block k (fun e => h.kb (by rw [← e]; exact hk))
  · exact (h.rv.fr hr.fr (fun k hk hk' => h.vP hk hk')).same fun k hk => hw.block k (fun e => h.vb (by rw [← e]; exact hk))
  · exact (hr.fr.mono (fun k hk _ => .inr (.inr (.inr hk)))).wrote hw (.inl (.inl rfl))
  · intro k hk
    rcases hk with hk | hk | hk | hk
    · exact .inl (.inl hk)
    · exact .inl (.inr (.inl hk))
    · exact .inl (.inr (.inr (.inl hk)))
    · rcases hr.new k hk with h' | h'
      · exact .inl (.inr (.inr (.inr h')))
      · exact .inr h'

def isLeaf (N : Nd) : Bool := decide (N.ps.length = 0)
def sizeN (N : Nd) : Nat := if isLeaf N then N.ks.length else N.ps.length

theorem leaf_any (w : World) (N : Nd) (h : NodeAt w N) : Calls Tryz.prog 113 #[ptrv N.b] w fun e w' => e = .returned (.bool (isLeaf N)) ∧ w = w' := by
  have c2 := h.c2
  obtain ⟨ao, cap, hp, _, _⟩ := h.pform
  rw [hp] at c2
  have e : isLeaf N = ((N.ps.length : Int) == 0) := by unfold isLeaf; rw [Bool.eq_iff_iff]; simp
  rw [e]
  generalize N.b = b at *
  generalize N.ps.length = n at *
  clear h hp e
  go_enter Tryz.func113, Tryz.ntmps113
  go_wp2_with fail
  go_ret
  exact ⟨rfl, rfl⟩

theorem size_any (w : World) (N : Nd) (h : NodeAt w N) : Calls Tryz.prog 111 #[ptrv N.b] w fun e w' => e = .returned (i64 (sizeN N)) ∧ w = w' := by
  have c2 := h.c2
  have c0 := h.c0
  obtain ⟨ao, cap, hp, _, _⟩ := h.pform
  obtain ⟨ao2, cap2, hk, _, _⟩ := h.kform
  rw [hp] at c2
  rw [hk] at c0
  have C := Lib.hid (leaf_any w N h)
  unfold sizeN
  generalize N.ks.length = m at *
  generalize N.ps.length = n at *
  clear h hp hk
  cases hl : isLeaf N
  · rw [hl] at C
    generalize N.b = b at *
    clear hl
    go_enter Tryz.func111, Tryz.ntmps111
    go_wp2_with (go_at_call 113; refine C.out.mono ?_; rintro e w' ⟨rfl, rfl⟩)
    go_ret
    exact ⟨rfl, rfl⟩
  · rw [hl] at C
    generalize N.b = b at *
    clear hl
    go_enter Tryz.func111, Tryz.ntmps111
    go_wp2_with (go_at_call 113; refine C.out.mono ?_; rintro e w' ⟨rfl, rfl⟩)
    go_ret
    exact ⟨rfl, rfl⟩

/-- which part the key lies in -/
def placeAt (x : Int) (ks : List Int) (p : Nat) : Nat := if found x ks p then p + 1 else p

theorem place_any (w : World) (N : Nd) (x : Int) (p : Nat) (h : NodeAt w N) (hbig : N.ks.length ≤ 1000000) (hs : N.ks.Pairwise (· < ·)) (hp : Pos x N.ks p) :
    Calls Tryz.prog 114 #[ptrv N.b, i64 x] w fun e w' => e = .returned (i64 (placeAt x N.ks p : Nat)) ∧ Rb w w' := by
  have c0 := h.c0
  have C := Lib.hid (search_at w N.kv N.ks x p h.rk hbig hs hp)
  obtain ⟨ao2, cap2, hk, _, _⟩ := h.kform
  rw [hk] at c0 C
  have hp := hp.le
  generalize N.ks.length = m at *
  generalize N.b = b at *
  unfold placeAt
  clear h hk
  cases hf : found x N.ks p
  · rw [hf] at C
    go_enter Tryz.func114, Tryz.ntmps114
    go_wp2_with (go_at_call 115; refine C.out.mono ?_)
    rintro e w' ⟨rfl, h2⟩
    have H2 := Lib.hid h2
    clear h2 C
    go_wp2_with fail
    go_ret
    exact ⟨rfl, H2.out⟩
  · rw [hf] at C
    go_enter Tryz.func114, Tryz.ntmps114
    go_wp2_with (go_at_call 115; refine C.out.mono ?_)
    rintro e w' ⟨rfl, h2⟩
    have H2 := Lib.hid h2
    clear h2 C
    go_wp2_with fail
    go_ret
    exact ⟨rfl, H2.out⟩
end Go.Proofs.YtjfpeklfgnajoaaGreat.L6

namespace Go.Proofs.YtjfpeklfgnajoaaGreat.L6
open Go.ChangeShapes Go.WideShapes Go.ChangeAt Go.RowKit By Reg
set_option linter.unusedVariables false

theorem size36 : (Tryz.prog.info? 47).map (·.size) = some 1 := by kernel_rfl
theorem size67 : (Tryz.prog.info? 157).map (·.size) = some 1 := by kernel_rfl
theorem size68 : (Tryz.prog.info? 158).map (·.size) = some 1 := by kernel_rfl
theorem size3 : (Tryz.prog.info? 32).map (·.size) = some 1 := by kernel_rfl

theorem found_at {x : Int} {ks : List Int} {p : Nat} (h : found x ks p = true) : ∃ h : p < ks.length, ks[p] = x := by
  unfold found at h
  rw [decide_eq_true_eq] at h
  obtain ⟨hp, he⟩ := List.getElem?_eq_some_iff.1 h
  exact ⟨hp, he⟩

theorem one1 {v : Value} (h : v.oneCell' = true) : ∀ u ∈ [v], u.oneCell' = true := fun u hu => by
  simp at hu; subst hu; exact h

set_option maxHeartbeats 2000000 in
set_option maxRecDepth 100000 in
/-- the key is there -/
theorem puthere_old (w : World) (N : Nd) (x : Int) (y : SV) (p : Nat) (h : NodeAt w N) (hl : N.vs.length = N.ks.length) (hbig : N.ks.length ≤ 100000) (hs : N.ks.Pairwise (· < ·)) (hp : Pos x N.ks p) (hf : found x N.ks p = true) :
    Calls Tryz.prog 136 #[ptrv N.b, i64 x, sv y] w fun e w' =>
      e = .returned (.tuple #[sv (N.vs.getD p sv0), .bool true]) ∧ Nx w N w' { N with vs := N.vs.set p y } := by
  obtain ⟨hpl, hpx⟩ := found_at hf
  obtain ⟨g, rest, hv, hb, hm⟩ : ∃ g rest, N.vv = .slice (some ⟨g, 0, none⟩) N.vs.length (N.vs.length + rest.length) ∧ Blk w g 32 (N.vs.map sv ++ rest) ∧ N.vs.length + rest.length ≤ maxLen := by
    rcases h.rv.cases' with ⟨h1, h2⟩ | ⟨g, rest, h1, h2, h3⟩
    · have : N.vs = [] := by simpa using h2
      rw [this] at hl
      simp at hl
      omega
    · rw [List.length_map] at h1 h3
      exact ⟨g, rest, h1, h2, h3⟩
  have c0 := h.c0
  have c1 := h.c1
  have C := Lib.hid (search_at w N.kv N.ks x p h.rk (by omega) hs hp)
  rw [hf] at C
  obtain ⟨ao2, cap2, hk, _, _⟩ := h.kform
  rw [hk] at c0 C
  rw [hv] at c1
  have H := Lib.hid h
  have HV := Lib.hid hv
  have HM := Lib.hid hm
  have HB := Lib.hid hb
  have hcell : w.cell? ⟨g, p, none⟩ = some (sv (N.vs.getD p sv0)) := by
    rw [hb.cell, List.getElem?_append_left (by rw [List.length_map]; omega), List.getElem?_map, List.getD_eq_getElem?_getD, List.getElem?_eq_getElem (by omega)]; rfl
  have hpv : p < N.vs.length := by omega
  obtain ⟨n, hn⟩ : ∃ n, n = N.vs.length := ⟨_, rfl⟩
  rw [← hn] at c1 hpv
  have HN := Lib.hid hn
  have hcap : n ≤ n + rest.length := by omega
  generalize hu : N.vs.getD p sv0 = u at *
  clear h hv hm hl hf hb hs hbig hp hn hpl hpx hu
  go_enter Tryz.func136, Tryz.ntmps136
  go_wp2_with (go_at_call 115; refine C.out.mono ?_)
  rintro e w1 ⟨rfl, h2⟩
  have cell1 : w1.cell? ⟨g, p, none⟩ = some (sv u) := by rw [Below.cell h2 (World.block_lt_of_cell? w _ hcell)]; exact hcell
  have d1 : w1.cell? ⟨N.b, 1, none⟩ = some (.slice (some ⟨g, 0, none⟩) n (n + rest.length)) := by rw [Below.cell h2 (World.block_lt_of_cell? w _ c1)]; exact c1
  have HB1 := Lib.hid (HB.out.rb h2)
  have H1 := Lib.hid (H.out.rb h2)
  have H2 := Lib.hid h2
  clear h2 C c0 c1 hcell
  go_wp2_with (refine wpList_store rfl 32 _ _ rfl g p 32 _ [sv y] _ rfl rfl HB1.out rfl size3 ?_ (one1 rfl) ?_)
  · rw [List.length_append, List.length_map, ← HN.out, List.length_singleton]; omega
  intro w2 hb2 hw2
  go_wp2
  go_ret2
  refine ⟨rfl, Nx.rb H2.out ⟨?_, rfl, ?_, fun k hk => .inl hk⟩⟩
  · have hn := H1.out
    have hvo : N.vv.ownBlock = some g := by rw [HV.out]; rfl
    refine ⟨hn.blk.same (hw2.block _ fun e => hn.vb (by rw [hvo, e])), hn.rk.same fun k hk => hw2.block k (fun e => hn.kV hk (by rw [hvo, e])), ?_, hn.rp.same fun k hk => hw2.block k (fun e => hn.vP hvo (by rw [hk, e]))⟩
    show Row w2 _ N.vv _
    rw [HV.out]
    have e : (N.vs.map sv ++ rest).take p ++ sv y :: (N.vs.map sv ++ rest).drop (p + 1) = (N.vs.set p y).map sv ++ rest := by
      have hq : p < N.vs.length := by rw [← HN.out]; exact hpv
      obtain ⟨A, c, B, e, hA⟩ : ∃ A c B, N.vs = A ++ c :: B ∧ A.length = p := ⟨N.vs.take p, N.vs[p], N.vs.drop (p + 1), by simp, by simp; omega⟩
      rw [e]
      subst hA
      simp [List.drop_append, List.set_append_right]
    rw [e] at hb2
    have := Row.mk' hb2 (by rw [List.length_map, List.length_set]; exact HM.out)
    rw [List.length_map, List.length_set] at this
    exact this
  · refine (Fr.refl _ _).wrote hw2 (.inl (.inr (.inr (.inl ?_))))
    rw [HV.out]; rfl

set_option maxHeartbeats 2000000 in
set_option maxRecDepth 100000 in
/-- the key is not there -/
theorem puthere_new (w : World) (N : Nd) (x : Int) (y : SV) (p : Nat) (h : NodeAt w N) (hl : N.vs.length = N.ks.length) (hbig : N.ks.length ≤ 100000) (hs : N.ks.Pairwise (· < ·)) (hp : Pos x N.ks p) (hf : found x N.ks p = false) :
    Calls Tryz.prog 136 #[ptrv N.b, i64 x, sv y] w fun e w' =>
      e = .returned (.tuple #[sv sv0, .bool false]) ∧ ∃ kv' vv', Nx w N w' { N with kv := kv', vv := vv', ks := N.ks.take p ++ x :: N.ks.drop p, vs := N.vs.take p ++ y :: N.vs.drop p } := by
  have c0 := h.c0
  have C := Lib.hid (search_at w N.kv N.ks x p h.rk (by omega) hs hp)
  rw [hf] at C
  have H := Lib.hid h
  have I1 : ∀ w1, Rb w w1 → Hid (Calls Tryz.prog 138 #[N.kv, i64 p, .slice (some ⟨w1.heap.size, 0, none⟩) 1 1] (w1.alloc (.cells #[i64 x] 2)) fun e w' => ∃ kv', e = .returned kv' ∧ Re (w1.alloc (.cells #[i64 x] 2)) 2 N.kv ((N.ks.take p ++ x :: N.ks.drop p).map i64) kv' w') := fun w1 hr => by
    have hn := (h.rb hr).rb (w' := w1.alloc (.cells #[i64 x] 2)) ((Below.refl _ w1).alloc (Nat.le_refl _) _)
    have hb : Blk (w1.alloc (.cells #[i64 x] 2)) w1.heap.size 2 [i64 x] := Blk.new w1 _ [i64 x]
    have := insert_any_K _ N.kv p w1.heap.size (N.ks.map i64) (i64 x) hn.rk hb (fun e => by have := (h.rb hr).rk.lt _ e; omega) (by rw [List.length_map]; exact hp.le) (by rw [List.length_map]; omega) i64_one rfl
    simpa [List.map_append, List.map_take, List.map_drop] using Lib.hid this
  have hpv : p ≤ N.vs.length := by rw [hl]; exact hp.le
  have I2 : ∀ w1, Row w1 32 N.vv (N.vs.map sv) → Hid (Calls Tryz.prog 151 #[N.vv, i64 p, .slice (some ⟨w1.heap.size, 0, none⟩) 1 1] (w1.alloc (.cells #[sv y] 32)) fun e w' => ∃ vv', e = .returned vv' ∧ Re (w1.alloc (.cells #[sv y] 32)) 32 N.vv ((N.vs.take p ++ y :: N.vs.drop p).map sv) vv' w') := fun w1 hr => by
    have hn := hr.rb (w' := w1.alloc (.cells #[sv y] 32)) ((Below.refl _ w1).alloc (Nat.le_refl _) _)
    have hb : Blk (w1.alloc (.cells #[sv y] 32)) w1.heap.size 32 [sv y] := Blk.new w1 _ [sv y]
    have := insert_any_V _ N.vv p w1.heap.size (N.vs.map sv) (sv y) hn hb (fun e => by have := hr.lt _ e; omega) (by rw [List.length_map]; exact hpv) (by rw [List.length_map]; omega) sv_one rfl
    simpa [List.map_append, List.map_take, List.map_drop] using Lib.hid this
  obtain ⟨ao2, cap2, hk, _, _⟩ := h.kform
  obtain ⟨ao3, cap3, hv, _, _⟩ := h.vform
  have hc0 : w.cell? ⟨N.b, 0, none⟩ = some N.kv := c0
  rw [hk] at c0 C
  have hpk := hp.le
  have HK := Lib.hid hk
  have HV := Lib.hid hv
  obtain ⟨n, hn⟩ : ∃ n, n = N.ks.length := ⟨_, rfl⟩
  rw [← hn] at hpk c0 C HK
  rw [hl, ← hn] at HV
  clear h hl hs hbig hp hn hk hv hf hpv hc0
  go_enter Tryz.func136, Tryz.ntmps136
  go_wp2_with (go_at_call 115; refine C.out.mono ?_)
  rintro e w1 ⟨rfl, h2⟩
  have d1 : w1.cell? ⟨N.b, 0, none⟩ = some (.slice ao2 n cap2) := by rw [Below.cell h2 (World.block_lt_of_cell? w _ c0)]; exact c0
  have H1 := Lib.hid (H.out.rb h2)
  have H2 := Lib.hid h2
  have J1 := I1 w1 h2
  rw [HK.out] at J1
  clear h2 C c0
  go_wp2_with (go_at_call 138; refine J1.out.mono ?_)
  rintro e w2 ⟨kv', rfl, hr1⟩
  have HW := Lib.hid (H1.out.rb (w' := w1.alloc (.cells #[i64 x] 2)) ((Below.refl _ w1).alloc (Nat.le_refl _) _))
  have hb2 : Blk w2 N.b 160 [N.kv, N.vv, N.pv] := HW.out.blk.same (hr1.fr.block _ HW.out.blk.lt (fun e => HW.out.kb (by rw [HK.out]; exact e)))
  have HB2 := Lib.hid hb2
  have ho := Lib.hid hr1.row.one
  have hkf := Lib.hid (hr1.row.form)
  have R1 := Lib.hid hr1
  clear hr1 hb2 J1 I1
  go_wp2_with (refine wpList_store rfl 47 _ _ rfl N.b 0 160 _ [kv'] _ rfl rfl HB2.out ho.out.2 size36 (by simp) (one1 ho.out.1) ?_)
  intro w3 hb3 hw3
  have X1 : Nx (w1.alloc (.cells #[i64 x] 2)) N w3 { N with kv := kv', ks := N.ks.take p ++ x :: N.ks.drop p } := Nx.keys HW.out (by rw [HK.out]; exact R1.out) hb3 hw3
  have HX1 := Lib.hid X1
  have J2 := I2 w3 X1.at_.rv
  have d3 := X1.at_.c1
  simp only at d3
  rw [HV.out] at d3 J2
  clear hb3 hw3 X1 I2
  go_wp2_with (go_at_call 151; refine J2.out.mono ?_)
  rintro e w4 ⟨vv', rfl, hr2⟩
  have HW2 := Lib.hid (HX1.out.at_.rb (w' := w3.alloc (.cells #[sv y] 32)) ((Below.refl _ w3).alloc (Nat.le_refl _) _))
  have hb4 : Blk w4 N.b 160 [kv', N.vv, N.pv] := HW2.out.blk.same (hr2.fr.block _ HW2.out.blk.lt (fun e => HW2.out.vb (by rw [HV.out]; exact e)))
  have HB4 := Lib.hid hb4
  have ho2 := Lib.hid hr2.row.one
  have R2 := Lib.hid hr2
  clear hr2 hb4 J2
  go_wp2_with (refine wpList_store rfl 157 _ _ rfl N.b 1 160 _ [vv'] _ rfl rfl HB4.out ho2.out.2 size67 (by simp) (one1 ho2.out.1) ?_)
  intro w5 hb5 hw5
  have X2 := Nx.vals HW2.out (vs' := N.vs.take p ++ y :: N.vs.drop p) (by simp only; rw [HV.out]; exact R2.out) hb5 hw5
  have HX2 := Lib.hid X2
  clear hb5 hw5 X2
  go_wp2
  go_ret2
  have A1 : Rb w1 (w1.alloc (.cells #[i64 x] 2)) := (Below.refl _ w1).alloc (Nat.le_refl _) _
  have A3 : Rb w3 (w3.alloc (.cells #[sv y] 32)) := (Below.refl _ w3).alloc (Nat.le_refl _) _
  exact ⟨rfl, _, _, Nx.rb H2.out (Nx.rb A1 (HX1.out.trans (Nx.rb A3 HX2.out)))⟩
end Go.Proofs.YtjfpeklfgnajoaaGreat.L6

namespace Go.Proofs.YtjfpeklfgnajoaaGreat.L6
open Go.ChangeShapes Go.WideShapes Go.ChangeAt Go.RowKit By Reg
set_option linter.unusedVariables false

theorem takehere_none (w : World) (N : Nd) (x : Int) (p : Nat) (h : NodeAt w N) (hbig : N.ks.length ≤ 100000) (hs : N.ks.Pairwise (· < ·)) (hp : Pos x N.ks p) (hf : found x N.ks p = false) :
    Calls Tryz.prog 134 #[ptrv N.b, i64 x] w fun e w' => e = .returned (.tuple #[sv sv0, .bool false]) ∧ Rb w w' := by
  have c0 := h.c0
  have C := Lib.hid (search_at w N.kv N.ks x p h.rk (by omega) hs hp)
  rw [hf] at C
  obtain ⟨ao2, cap2, hk, _, _⟩ := h.kform
  rw [hk] at c0 C
  generalize N.ks.length = n at *
  clear h hs hbig hp hk hf
  go_enter Tryz.func134, Tryz.ntmps134
  go_wp2_with (go_at_call 115; refine C.out.mono ?_)
  rintro e w1 ⟨rfl, h2⟩
  have H2 := Lib.hid h2
  clear h2
  go_wp2
  go_ret2
  exact ⟨rfl, H2.out⟩

set_option maxHeartbeats 2000000 in
set_option maxRecDepth 100000 in
theorem takehere_some (w : World) (N : Nd) (x : Int) (p : Nat) (h : NodeAt w N) (hl : N.vs.length = N.ks.length) (hbig : N.ks.length ≤ 100000) (hs : N.ks.Pairwise (· < ·)) (hp : Pos x N.ks p) (hf : found x N.ks p = true) :
    Calls Tryz.prog 134 #[ptrv N.b, i64 x] w fun e w' =>
      e = .returned (.tuple #[sv (N.vs.getD p sv0), .bool true]) ∧ ∃ kv' vv', Nx w N w' { N with kv := kv', vv := vv', ks := N.ks.take p ++ N.ks.drop (p + 1), vs := N.vs.take p ++ N.vs.drop (p + 1) } := by
  obtain ⟨hpl, hpx⟩ := found_at hf
  have c0 := h.c0
  have c1 := h.c1
  have C := Lib.hid (search_at w N.kv N.ks x p h.rk (by omega) hs hp)
  rw [hf] at C
  have H := Lib.hid h
  have I1 : ∀ w1, Row w1 2 N.kv (N.ks.map i64) → Hid (Calls Tryz.prog 148 #[N.kv, i64 p, i64 ((p : Int) + 1)] w1 fun e w' => ∃ kv', e = .returned kv' ∧ Re w1 2 N.kv ((N.ks.take p ++ N.ks.drop (p + 1)).map i64) kv' w' ∧ kv'.ownBlock = N.kv.ownBlock) := fun w1 hr => by
    have := delete_any_K w1 N.kv p (p + 1) (N.ks.map i64) hr (by omega) (by rw [List.length_map]; omega) i64_one
    simpa [List.map_append, List.map_take, List.map_drop] using Lib.hid this
  have hpv : p < N.vs.length := by rw [hl]; exact hpl
  have I2 : ∀ w1, Row w1 32 N.vv (N.vs.map sv) → Hid (Calls Tryz.prog 149 #[N.vv, i64 p, i64 ((p : Int) + 1)] w1 fun e w' => ∃ vv', e = .returned vv' ∧ Re w1 32 N.vv ((N.vs.take p ++ N.vs.drop (p + 1)).map sv) vv' w' ∧ vv'.ownBlock = N.vv.ownBlock) := fun w1 hr => by
    have := delete_any_V w1 N.vv p (p + 1) (N.vs.map sv) hr (by omega) (by rw [List.length_map]; omega) sv_one
    simpa [List.map_append, List.map_take, List.map_drop] using Lib.hid this
  obtain ⟨g, cap3, hv, _, _, hcell⟩ := h.rv.at_ (j := p) (by rw [List.length_map]; exact hpv)
  rw [List.getElem_map] at hcell
  obtain ⟨ao2, cap2, hk, _, _⟩ := h.kform
  have hu : N.vs[p] = N.vs.getD p sv0 := by rw [List.getD_eq_getElem?_getD, List.getElem?_eq_getElem hpv]; rfl
  rw [hu] at hcell
  rw [List.length_map, hl] at hv
  have hc1 : w.cell? ⟨N.b, 1, none⟩ = some N.vv := c1
  have hc0 : w.cell? ⟨N.b, 0, none⟩ = some N.kv := c0
  rw [hk] at c0 C
  rw [hv] at c1
  have HK := Lib.hid hk
  have HV := Lib.hid hv
  obtain ⟨n, hn⟩ : ∃ n, n = N.ks.length := ⟨_, rfl⟩
  rw [← hn] at hpl c0 c1 C HK HV
  have hw1 : IntKind.i64.wrap ((p : Int) + 1) = (p : Int) + 1 := by rw [IntKind.wrap_i64]; omega
  have hpb : p ≤ 100000 := by omega
  generalize N.vs.getD p sv0 = u at *
  clear h hl hs hbig hp hn hk hv hf hpv hc0 hc1 hu
  go_enter Tryz.func134, Tryz.ntmps134
  go_wp2_with (go_at_call 115; refine C.out.mono ?_)
  rintro e w1 ⟨rfl, h2⟩
  have d0 : w1.cell? ⟨N.b, 0, none⟩ = some (.slice ao2 n cap2) := by rw [Below.cell h2 (World.block_lt_of_cell? w _ c0)]; exact c0
  have d1 : w1.cell? ⟨N.b, 1, none⟩ = some (.slice (some ⟨g, 0, none⟩) n cap3) := by rw [Below.cell h2 (World.block_lt_of_cell? w _ c1)]; exact c1
  have dc : w1.cell? ⟨g, p, none⟩ = some (sv u) := by rw [Below.cell h2 (World.block_lt_of_cell? w _ hcell)]; exact hcell
  have H1 := Lib.hid (H.out.rb h2)
  have H2 := Lib.hid h2
  have J1 := I1 w1 H1.out.rk
  rw [HK.out] at J1
  clear h2 C c0 c1 hcell
  go_wp2_with (go_at_call 148; refine J1.out.mono ?_)
  rintro e w2 ⟨kv', rfl, hr1, -⟩
  have hb2 : Blk w2 N.b 160 [N.kv, N.vv, N.pv] := H1.out.blk.same (hr1.fr.block _ H1.out.blk.lt (fun e => H1.out.kb (by rw [HK.out]; exact e)))
  have HB2 := Lib.hid hb2
  have ho := Lib.hid hr1.row.one
  have R1 := Lib.hid hr1
  clear hr1 hb2 J1 I1
  go_wp2_with (refine wpList_store rfl 47 _ _ rfl N.b 0 160 _ [kv'] _ rfl rfl HB2.out ho.out.2 size36 (by simp) (one1 ho.out.1) ?_)
  intro w3 hb3 hw3
  have X1 : Nx w1 N w3 { N with kv := kv', ks := N.ks.take p ++ N.ks.drop (p + 1) } := Nx.keys H1.out (by rw [HK.out]; exact R1.out) hb3 hw3
  have HX1 := Lib.hid X1
  have J2 := I2 w3 X1.at_.rv
  have d3 := X1.at_.c1
  simp only at d3
  rw [HV.out] at d3 J2
  clear hb3 hw3 X1 I2
  go_wp2_with (go_at_call 149; refine J2.out.mono ?_)
  rintro e w4 ⟨vv', rfl, hr2, -⟩
  have hb4 : Blk w4 N.b 160 [kv', N.vv, N.pv] := HX1.out.at_.blk.same (hr2.fr.block _ HX1.out.at_.blk.lt (fun e => HX1.out.at_.vb (by simp only; rw [HV.out]; exact e)))
  have HB4 := Lib.hid hb4
  have ho2 := Lib.hid hr2.row.one
  have R2 := Lib.hid hr2
  clear hr2 hb4 J2
  go_wp2_with (refine wpList_store rfl 157 _ _ rfl N.b 1 160 _ [vv'] _ rfl rfl HB4.out ho2.out.2 size67 (by simp) (one1 ho2.out.1) ?_)
  intro w5 hb5 hw5
  have X2 := Nx.vals HX1.out.at_ (vs' := N.vs.take p ++ N.vs.drop (p + 1)) (by simp only; rw [HV.out]; exact R2.out) hb5 hw5
  have HX2 := Lib.hid X2
  clear hb5 hw5 X2
  go_wp2
  go_ret2
  exact ⟨rfl, _, _, Nx.rb H2.out (HX1.out.trans HX2.out)⟩
end Go.Proofs.YtjfpeklfgnajoaaGreat.L6

namespace Go.Proofs.YtjfpeklfgnajoaaGreat.L6
open Go.ChangeShapes Go.WideShapes Go.ChangeAt Go.RowKit By Reg
set_option linter.unusedVariables false

/-- a node on its way, and a new one beside it -/
structure Two (w0 : World) (N0 : Nd) (w : World) (N M : Nd) : Prop where
  na : NodeAt w N
  ma : NodeAt w M
  nb : N.b = N0.b
  nh : ∀ k, N.has k → N0.has k
  mh : ∀ k, M.has k → w0.heap.size ≤ k
  n0 : ∀ k, N0.has k → k < w0.heap.size
  fr : Fr N0.has w0 w

namespace Two
variable {w0 w w1 w2 w3 : World} {N0 N M : Nd}
theorem ne (h : Two w0 N0 w N M) : M.b ≠ N.b := fun e => by
  have a := h.mh M.b (.inl rfl)
  have b := h.n0 N.b (h.nh _ (.inl rfl))
  omega
theorem off (h : Two w0 N0 w N M) {k : Nat} (hm : M.has k) (hn : N.has k) : False := by
  have a := h.mh k hm
  have b := h.n0 k (h.nh _ hn)
  omega
theorem start (w : World) (N : Nd) (h : NodeAt w N) : Two w N (w.alloc (.cells #[.slice none 0 0, .slice none 0 0, .slice none 0 0] 160)) N ⟨w.heap.size, .slice none 0 0, .slice none 0 0, .slice none 0 0, [], [], []⟩ := by
  have hrb : Rb w (w.alloc (.cells #[.slice none 0 0, .slice none 0 0, .slice none 0 0] 160)) := (Below.refl _ w).alloc (Nat.le_refl _) _
  refine ⟨h.rb hrb, ⟨Blk.new w _ [.slice none 0 0, .slice none 0 0, .slice none 0 0], Row.nil _ _, Row.nil _ _, Row.nil _ _⟩, rfl, fun _ h => h, fun k hk => ?_, h.lt, Fr.of_rb hrb⟩
  rcases hk with rfl | hk | hk | hk
  · exact Nat.le_refl _
  · cases hk
  · cases hk
  · cases hk

theorem k1 (h : Two w0 N0 w N M) {a : List Int} {v1 : Value} (hr : Re w 2 N.kv (a.map i64) v1 w1) : Blk w1 N.b 160 [N.kv, N.vv, N.pv] :=
  h.na.blk.same (hr.fr.block _ h.na.blk.lt h.na.kb)
theorem k2 (h : Two w0 N0 w N M) {a : List Int} {v1 : Value} (hr : Re w 2 N.kv (a.map i64) v1 w1) (hw : Wrote N.b w1 w2) : Blk w2 M.b 160 [M.kv, M.vv, M.pv] :=
  h.ma.blk.same ((hw.block _ h.ne).trans (hr.fr.block _ h.ma.blk.lt fun e => h.off (.inl rfl) (.inr (.inl e))))
theorem k3 (h : Two w0 N0 w N M) {a b : List Int} {v1 v2 : Value} (hr : Re w 2 N.kv (a.map i64) v1 w1) (ho : v1.ownBlock = N.kv.ownBlock) (h2 : Row w1 2 v2 (b.map i64)) (hn : ∀ k, v2.ownBlock = some k → w.heap.size ≤ k)
    (hb2 : Blk w2 N.b 160 [v1, N.vv, N.pv]) (hw2 : Wrote N.b w1 w2) (hb3 : Blk w3 M.b 160 [v2, M.vv, M.pv]) (hw3 : Wrote M.b w2 w3) :
    Two w0 N0 w3 { N with kv := v1, ks := a } { M with kv := v2, ks := b } := by
  have x1 := Nx.keys h.na hr hb2 hw2
  have hNh : ∀ k, Nd.has { N with kv := v1, ks := a } k → N.has k := fun k hk => by
    rcases hk with hk | hk | hk | hk
    · exact .inl hk
    all_goals first | exact .inr (.inl hk) | exact .inr (.inr (.inl hk)) | exact .inr (.inr (.inr hk)) | exact .inr (.inl (by rw [← ho]; exact hk)) | exact .inr (.inr (.inl (by rw [← ho]; exact hk))) | exact .inr (.inr (.inr (by rw [← ho]; exact hk)))
  have hm2 : NodeAt w2 M := h.ma.fr x1.fr (fun k hk hk' => h.off hk hk')
  have hv2 : Row w2 2 v2 (b.map i64) := h2.same fun k hk => hw2.block k (fun e => by
    have a := hn k hk
    have b := h.na.blk.lt
    omega)
  have hvM : v2.ownBlock ≠ some M.b := hv2.not_blk hm2.blk (by decide)
  have hnb : ∀ k, Nd.has { N with kv := v1, ks := a } k → k ≠ M.b := fun k hk e => h.off (.inl e) (hNh k hk)
  refine ⟨x1.at_.same (fun k hk => hw3.block k (hnb k hk)), ⟨hb3, ?_, ?_, ?_⟩, h.nb, fun k hk => h.nh k (hNh k hk), ?_, h.n0, ?_⟩
  · exact hv2.same fun k hk => hw3.block k (fun e => hvM (by rw [← e]; exact hk))
  · exact hm2.rv.same fun k hk => hw3.block k (fun e => hm2.vb (by rw [← e]; exact hk))
  · exact hm2.rp.same fun k hk => hw3.block k (fun e => hm2.pb (by rw [← e]; exact hk))
  · intro k hk
    have hsz := h.fr.size
    rcases hk with hk | hk | hk | hk
    · exact h.mh k (.inl hk)
    · have := hn k hk; omega
    · exact h.mh k (.inr (.inr (.inl hk)))
    · exact h.mh k (.inr (.inr (.inr hk)))
  · refine ((h.fr.trans x1.fr (fun k hk => .inl (h.nh k hk)))).wrote hw3 (.inr (h.mh _ (.inl rfl)))

theorem v1 (h : Two w0 N0 w N M) {a : List SV} {v1 : Value} (hr : Re w 32 N.vv (a.map sv) v1 w1) : Blk w1 N.b 160 [N.kv, N.vv, N.pv] :=
  h.na.blk.same (hr.fr.block _ h.na.blk.lt h.na.vb)
theorem v2 (h : Two w0 N0 w N M) {a : List SV} {v1 : Value} (hr : Re w 32 N.vv (a.map sv) v1 w1) (hw : Wrote N.b w1 w2) : Blk w2 M.b 160 [M.kv, M.vv, M.pv] :=
  h.ma.blk.same ((hw.block _ h.ne).trans (hr.fr.block _ h.ma.blk.lt fun e => h.off (.inl rfl) (.inr (.inr (.inl e)))))
theorem v3 (h : Two w0 N0 w N M) {a b : List SV} {v1 v2 : Value} (hr : Re w 32 N.vv (a.map sv) v1 w1) (ho : v1.ownBlock = N.vv.ownBlock) (h2 : Row w1 32 v2 (b.map sv)) (hn : ∀ k, v2.ownBlock = some k → w.heap.size ≤ k)
    (hb2 : Blk w2 N.b 160 [N.kv, v1, N.pv]) (hw2 : Wrote N.b w1 w2) (hb3 : Blk w3 M.b 160 [M.kv, v2, M.pv]) (hw3 : Wrote M.b w2 w3) :
    Two w0 N0 w3 { N with vv := v1, vs := a } { M with vv := v2, vs := b } := by
  have x1 := Nx.vals h.na hr hb2 hw2
  have hNh : ∀ k, Nd.has { N with vv := v1, vs := a } k → N.has k := fun k hk => by
    rcases hk with hk | hk | hk | hk
    · exact .inl hk
    all_goals first | exact .inr (.inl hk) | exact .inr (.inr (.inl hk)) | exact .inr (.inr (.inr hk)) | exact .inr (.inl (by rw [← ho]; exact hk)) | exact .inr (.inr (.inl (by rw [← ho]; exact hk))) | exact .inr (.inr (.inr (by rw [← ho]; exact hk)))
  have hm2 : NodeAt w2 M := h.ma.fr x1.fr (fun k hk hk' => h.off hk hk')
  have hv2 : Row w2 32 v2 (b.map sv) := h2.same fun k hk => hw2.block k (fun e => by
    have a := hn k hk
    have b := h.na.blk.lt
    omega)
  have hvM : v2.ownBlock ≠ some M.b := hv2.not_blk hm2.blk (by decide)
  have hnb : ∀ k, Nd.has { N with vv := v1, vs := a } k → k ≠ M.b := fun k hk e => h.off (.inl e) (hNh k hk)
  refine ⟨x1.at_.same (fun k hk => hw3.block k (hnb k hk)), ⟨hb3, ?_, ?_, ?_⟩, h.nb, fun k hk => h.nh k (hNh k hk), ?_, h.n0, ?_⟩
  · exact hm2.rk.same fun k hk => hw3.block k (fun e => hm2.kb (by rw [← e]; exact hk))
  · exact hv2.same fun k hk => hw3.block k (fun e => hvM (by rw [← e]; exact hk))
  · exact hm2.rp.same fun k hk => hw3.block k (fun e => hm2.pb (by rw [← e]; exact hk))
  · intro k hk
    have hsz := h.fr.size
    rcases hk with hk | hk | hk | hk
    · exact h.mh k (.inl hk)
    · exact h.mh k (.inr (.inl hk))
    · have := hn k hk; omega
    · exact h.mh k (.inr (.inr (.inr hk)))
  · refine ((h.fr.trans x1.fr (fun k hk => .inl (h.nh k hk)))).wrote hw3 (.inr (h.mh _ (.inl rfl)))

theorem p1 (h : Two w0 N0 w N M) {a : List Nat} {v1 : Value} (hr : Re w 91 N.pv (a.map ptrv) v1 w1) : Blk w1 N.b 160 [N.kv, N.vv, N.pv] :=
  h.na.blk.same (hr.fr.block _ h.na.blk.lt h.na.pb)
theorem p2 (h : Two w0 N0 w N M) {a : List Nat} {v1 : Value} (hr : Re w 91 N.pv (a.map ptrv) v1 w1) (hw : Wrote N.b w1 w2) : Blk w2 M.b 160 [M.kv, M.vv, M.pv] :=
  h.ma.blk.same ((hw.block _ h.ne).trans (hr.fr.block _ h.ma.blk.lt fun e => h.off (.inl rfl) (.inr (.inr (.inr e)))))
theorem p3 (h : Two w0 N0 w N M) {a b : List Nat} {v1 v2 : Value} (hr : Re w 91 N.pv (a.map ptrv) v1 w1) (ho : v1.ownBlock = N.pv.ownBlock) (h2 : Row w1 91 v2 (b.map ptrv)) (hn : ∀ k, v2.ownBlock = some k → w.heap.size ≤ k)
    (hb2 : Blk w2 N.b 160 [N.kv, N.vv, v1]) (hw2 : Wrote N.b w1 w2) (hb3 : Blk w3 M.b 160 [M.kv, M.vv, v2]) (hw3 : Wrote M.b w2 w3) :
    Two w0 N0 w3 { N with pv := v1, ps := a } { M with pv := v2, ps := b } := by
  have x1 := Nx.parts h.na hr hb2 hw2
  have hNh : ∀ k, Nd.has { N with pv := v1, ps := a } k → N.has k := fun k hk => by
    rcases hk with hk | hk | hk | hk
    · exact .inl hk
    all_goals first | exact .inr (.inl hk) | exact .inr (.inr (.inl hk)) | exact .inr (.inr (.inr hk)) | exact .inr (.inl (by rw [← ho]; exact hk)) | exact .inr (.inr (.inl (by rw [← ho]; exact hk))) | exact .inr (.inr (.inr (by rw [← ho]; exact hk)))
  have hm2 : NodeAt w2 M := h.ma.fr x1.fr (fun k hk hk' => h.off hk hk')
  have hv2 : Row w2 91 v2 (b.map ptrv) := h2.same fun k hk => hw2.block k (fun e => by
    have a := hn k hk
    have b := h.na.blk.lt
    omega)
  have hvM : v2.ownBlock ≠ some M.b := hv2.not_blk hm2.blk (by decide)
  have hnb : ∀ k, Nd.has { N with pv := v1, ps := a } k → k ≠ M.b := fun k hk e => h.off (.inl e) (hNh k hk)
  refine ⟨x1.at_.same (fun k hk => hw3.block k (hnb k hk)), ⟨hb3, ?_, ?_, ?_⟩, h.nb, fun k hk => h.nh k (hNh k hk), ?_, h.n0, ?_⟩
  · exact hm2.rk.same fun k hk => hw3.block k (fun e => hm2.kb (by rw [← e]; exact hk))
  · exact hm2.rv.same fun k hk => hw3.block k (fun e => hm2.vb (by rw [← e]; exact hk))
  · exact hv2.same fun k hk => hw3.block k (fun e => hvM (by rw [← e]; exact hk))
  · intro k hk
    have hsz := h.fr.size
    rcases hk with hk | hk | hk | hk
    · exact h.mh k (.inl hk)
    · exact h.mh k (.inr (.inl hk))
    · exact h.mh k (.inr (.inr (.inl hk)))
    · have := hn k hk; omega
  · refine ((h.fr.trans x1.fr (fun k hk => .inl (h.nh k hk)))).wrote hw3 (.inr (h.mh _ (.inl rfl)))

end Two

set_option maxHeartbeats 2000000 in
set_option maxRecDepth 100000 in
theorem halve_leaf (w : World) (N : Nd) (h : NodeAt w N) (hp : N.ps = []) (hl : N.vs.length = N.ks.length) (hlo : 9 ≤ N.ks.length) (hhi : N.ks.length ≤ 100) :
    Calls Tryz.prog 137 #[ptrv N.b] w fun e w' =>
      ∃ kv vv pv M, e = .returned (.tuple #[i64 (N.ks.getD (N.ks.length / 2) 0), ptrv M.b]) ∧ Two w N w' { N with kv := kv, vv := vv, pv := pv, ks := N.ks.take (N.ks.length / 2), vs := N.vs.take (N.ks.length / 2) } M ∧ M.ks = N.ks.drop (N.ks.length / 2) ∧ M.vs = N.vs.drop (N.ks.length / 2) ∧ M.ps = [] := by
  have hle : isLeaf N = true := by unfold isLeaf; rw [hp]; rfl
  have hsz : sizeN N = N.ks.length := by unfold sizeN; rw [hle]; rfl
  have CS := Lib.hid (size_any w N h)
  rw [hsz] at CS
  obtain ⟨q, hq⟩ : ∃ q, q = N.ks.length / 2 := ⟨_, rfl⟩
  obtain ⟨n, hn⟩ : ∃ n, n = N.ks.length := ⟨_, rfl⟩
  have CK : ∀ w2, Row w2 2 N.kv (N.ks.map i64) → Hid (Calls Tryz.prog 152 #[N.kv, i64 q] w2 fun e w' => ∃ v1 v2, e = .returned (.tuple #[v1, v2]) ∧ Re w2 2 N.kv ((N.ks.map i64).take q) v1 w' ∧ v1.ownBlock = N.kv.ownBlock ∧ Row w' 2 v2 ((N.ks.map i64).drop q) ∧ (∀ k, v2.ownBlock = some k → w2.heap.size ≤ k)) :=
    fun w2 hr => Lib.hid (cut_any_K w2 N.kv q (N.ks.map i64) hr (by rw [List.length_map]; omega) (by rw [List.length_map]; omega) i64_one)
  have CV : ∀ w2, Row w2 32 N.vv (N.vs.map sv) → Hid (Calls Tryz.prog 153 #[N.vv, i64 q] w2 fun e w' => ∃ v1 v2, e = .returned (.tuple #[v1, v2]) ∧ Re w2 32 N.vv ((N.vs.map sv).take q) v1 w' ∧ v1.ownBlock = N.vv.ownBlock ∧ Row w' 32 v2 ((N.vs.map sv).drop q) ∧ (∀ k, v2.ownBlock = some k → w2.heap.size ≤ k)) :=
    fun w2 hr => Lib.hid (cut_any_V w2 N.vv q (N.vs.map sv) hr (by rw [List.length_map]; omega) (by rw [List.length_map]; omega) sv_one)
  obtain ⟨ao, cap, hk, _, _⟩ := h.kform
  obtain ⟨ao2, cap2, hv, _, _⟩ := h.vform
  have HK := Lib.hid hk
  have HV := Lib.hid hv
  have HH := Lib.hid h
  have HLE := Lib.hid hle
  have hqn : (n : Int) / 2 = (q : Int) := by omega
  have HQ := Lib.hid hq
  have HN := Lib.hid hn
  have hdl : 0 < (N.ks.drop q).length := by rw [List.length_drop]; omega
  have hgd : (N.ks.drop q)[0] = N.ks.getD q 0 := by
    rw [List.getElem_drop, List.getD_eq_getElem?_getD, List.getElem?_eq_getElem (by omega)]
    rfl
  obtain ⟨kk, hkk⟩ : ∃ kk, kk = N.ks.getD q 0 := ⟨_, rfl⟩
  rw [← hkk] at hgd
  have HDL := Lib.hid hdl
  have HGD := Lib.hid hgd
  rw [← hq, ← hkk]
  clear hkk
  rw [← hn] at CS HK
  have hq64 : wrap64 (q : Int) = (q : Int) := by unfold wrap64; omega
  clear h hp hl hlo hhi hk hv hle hsz hq hn
  go_enter Tryz.func137, Tryz.ntmps137
  go_wp2_with (go_at_call 111; refine CS.out.mono ?_; rintro e w' ⟨rfl, rfl⟩)
  have T1 := Two.start w N HH.out
  generalize w.alloc (.cells #[.slice none 0 0, .slice none 0 0, .slice none 0 0] 160) = w1 at T1 ⊢
  have CL := leaf_any w1 N T1.na
  rw [HLE.out] at CL
  have J0 := CK w1 T1.na.rk
  have d0 := T1.na.c0
  rw [HK.out] at d0 J0
  have HT1 := Lib.hid T1
  clear T1 CK
  refine CL.mono ?_
  clear CL
  rintro e w' ⟨rfl, rfl⟩
  go_wp2_with (go_at_call 152; refine J0.out.mono ?_)
  first | (rintro e w2 v1 v2 rfl r1 r2 r3 r4) | (rintro e w2 ⟨v1, v2, rfl, r1, r2, r3, r4⟩)
  rw [← List.map_take] at r1
  rw [← List.map_drop] at r3
  have hb2 := HT1.out.k1 (by rw [HK.out]; exact r1)
  have HB2 := Lib.hid hb2
  have o1 := Lib.hid r1.row.one
  have o2 := Lib.hid r3.one
  have R1 := Lib.hid r1
  have R2 := Lib.hid r2
  have R3 := Lib.hid r3
  have R4 := Lib.hid r4
  clear r1 r2 r3 r4 hb2 J0
  go_wp2_with (refine wpList_store rfl 47 _ _ rfl N.b 0 160 _ [v1] _ rfl rfl HB2.out o1.out.2 size36 (by simp) (one1 o1.out.1) ?_)
  intro w3 hb3 hw3
  have hb3' := HT1.out.k2 (by rw [HK.out]; exact R1.out) hw3
  have HB3 := Lib.hid hb3
  have HB3' := Lib.hid hb3'
  have HW3 := Lib.hid hw3
  clear hb3 hb3' hw3
  go_wp2_with (refine wpList_store rfl 47 _ _ rfl _ 0 160 _ [v2] _ rfl rfl HB3'.out o2.out.2 size36 (by simp) (one1 o2.out.1) ?_)
  intro w4 hb4 hw4
  have T2 := HT1.out.k3 (a := N.ks.take q) (b := N.ks.drop q) (by rw [HK.out]; exact R1.out) (by rw [HK.out]; exact R2.out) R3.out R4.out HB3.out HW3.out hb4 hw4
  have HT2 := Lib.hid T2
  have J := CV w4 T2.na.rv
  have d1 := T2.na.c1
  simp only at d1
  rw [HV.out] at d1 J
  clear hb4 hw4 T2 CV
  go_wp2_with (go_at_call 153; refine J.out.mono ?_)
  first | (rintro e w5 u1 u2 rfl r1 r2 r3 r4) | (rintro e w5 ⟨u1, u2, rfl, r1, r2, r3, r4⟩)
  rw [← List.map_take] at r1
  rw [← List.map_drop] at r3
  have hb2 := HT2.out.v1 (a := N.vs.take q) (by simp only; rw [HV.out]; exact r1)
  have HC2 := Lib.hid hb2
  have p1 := Lib.hid r1.row.one
  have p2 := Lib.hid r3.one
  have S1 := Lib.hid r1
  have S2 := Lib.hid r2
  have S3 := Lib.hid r3
  have S4 := Lib.hid r4
  clear r1 r2 r3 r4 hb2 J
  go_wp2_with (refine wpList_store rfl 157 _ _ rfl N.b 1 160 _ [u1] _ rfl rfl HC2.out p1.out.2 size67 (by simp) (one1 p1.out.1) ?_)
  intro w6 hb3 hw3
  have hb3' := HT2.out.v2 (a := N.vs.take q) (by simp only; rw [HV.out]; exact S1.out) hw3
  have HC3 := Lib.hid hb3
  have HC3' := Lib.hid hb3'
  have HW6 := Lib.hid hw3
  clear hb3 hb3' hw3
  go_wp2_with (refine wpList_store rfl 157 _ _ rfl _ 1 160 _ [u2] _ rfl rfl HC3'.out p2.out.2 size67 (by simp) (one1 p2.out.1) ?_)
  intro w7 hb4 hw4
  have T3 := HT2.out.v3 (a := N.vs.take q) (b := N.vs.drop q) (by simp only; rw [HV.out]; exact S1.out) (by simp only; rw [HV.out]; exact S2.out) S3.out S4.out HC3.out HW6.out hb4 hw4
  have HT3 := Lib.hid T3
  obtain ⟨g, cp, hfm, _, _, hce⟩ := T3.ma.rk.at_ (j := 0) (by simpa using HDL.out)
  have e0 : w7.cell? ⟨w.heap.size, 0, none⟩ = some v2 := T3.ma.c0
  simp only at hfm hce
  obtain ⟨m, hm⟩ : ∃ m, m = (List.map i64 (List.drop q N.ks)).length := ⟨_, rfl⟩
  have hmp : 0 < m := by rw [hm, List.length_map]; exact HDL.out
  rw [← hm] at hfm
  clear hm
  rw [hfm] at e0
  simp only [List.getElem_map, HGD.out] at hce
  clear hb4 hw4 T3 hfm
  go_wp2
  go_ret2
  refine ⟨_, _, _, _, ?_, HT3.out, rfl, rfl, rfl⟩
  rfl
end Go.Proofs.YtjfpeklfgnajoaaGreat.L6

namespace Go.Proofs.YtjfpeklfgnajoaaGreat.L6
open Go.ChangeShapes Go.WideShapes Go.ChangeAt Go.RowKit By Reg
set_option linter.unusedVariables false

theorem Row.take {w : World} {e : TypeId} {g n cap : Nat} {xs : List Value} (h : Row w e (.slice (some ⟨g, 0, none⟩) n cap) xs) (m : Nat) (hm : m ≤ xs.length) : Row w e (.slice (some ⟨g, 0, none⟩) m cap) (xs.take m) := by
  rcases h.cases' with ⟨e, _⟩ | ⟨g', rest, e, h2, h3⟩
  · cases e
  · simp only [Value.slice.injEq, Option.some.injEq, Addr.mk.injEq, and_true] at e
    obtain ⟨rfl, rfl, rfl⟩ := e
    have hl : (xs.take m).length = m := by rw [List.length_take]; omega
    have hb : Blk w g e ((xs.take m) ++ (xs.drop m ++ rest)) := by rw [← List.append_assoc, List.take_append_drop]; exact h2
    have := Row.mk' hb (by rw [hl, List.length_append, List.length_drop]; omega)
    rw [hl, List.length_append, List.length_drop, show m + (xs.length - m + rest.length) = xs.length + rest.length by omega] at this
    exact this

theorem Row.int_at {w : World} {e : TypeId} {v : Value} {ks : List Int} (h : Row w e v (ks.map i64)) {j : Nat} (hj : j < ks.length) :
    ∃ g cap, v = .slice (some ⟨g, 0, none⟩) ks.length cap ∧ ks.length ≤ cap ∧ cap ≤ maxLen ∧ w.cell? ⟨g, j, none⟩ = some (i64 (ks.getD j 0)) := by
  obtain ⟨g, cap, h1, h2, h3, h4⟩ := h.at_ (j := j) (by rw [List.length_map]; exact hj)
  rw [List.length_map] at h1 h2
  refine ⟨g, cap, h1, h2, h3, ?_⟩
  rw [h4, List.getElem_map, List.getD_eq_getElem?_getD, List.getElem?_eq_getElem hj]
  rfl

theorem Row.sv_at {w : World} {e : TypeId} {v : Value} {ks : List SV} (h : Row w e v (ks.map sv)) {j : Nat} (hj : j < ks.length) :
    ∃ g cap, v = .slice (some ⟨g, 0, none⟩) ks.length cap ∧ ks.length ≤ cap ∧ cap ≤ maxLen ∧ w.cell? ⟨g, j, none⟩ = some (sv (ks.getD j sv0)) := by
  obtain ⟨g, cap, h1, h2, h3, h4⟩ := h.at_ (j := j) (by rw [List.length_map]; exact hj)
  rw [List.length_map] at h1 h2
  refine ⟨g, cap, h1, h2, h3, ?_⟩
  rw [h4, List.getElem_map, List.getD_eq_getElem?_getD, List.getElem?_eq_getElem hj]
  rfl

theorem Two.nx {w0 w w' : World} {N0 N M N' : Nd} (h : Two w0 N0 w N M) (k : Nx w N w' N') (hh : ∀ k, N'.has k → N.has k) : Two w0 N0 w' N' M :=
  ⟨k.at_, h.ma.fr k.fr (fun i hi hi' => h.off hi hi'), k.b.trans h.nb, fun i hi => h.nh i (hh i hi), h.mh, h.n0, h.fr.trans k.fr (fun i hi => .inl (h.nh i hi))⟩

set_option maxHeartbeats 2000000 in
set_option maxRecDepth 100000 in
theorem halve_inner (w : World) (N : Nd) (h : NodeAt w N) (hv : N.vs = []) (hl : N.ps.length = N.ks.length + 1) (hlo : 9 ≤ N.ps.length) (hhi : N.ps.length ≤ 100) :
    Calls Tryz.prog 137 #[ptrv N.b] w fun e w' =>
      ∃ kv vv pv M, e = .returned (.tuple #[i64 (N.ks.getD (N.ps.length / 2 - 1) 0), ptrv M.b]) ∧ Two w N w' { N with kv := kv, vv := vv, pv := pv, ks := N.ks.take (N.ps.length / 2 - 1), ps := N.ps.take (N.ps.length / 2) } M ∧ M.ks = N.ks.drop (N.ps.length / 2) ∧ M.vs = [] ∧ M.ps = N.ps.drop (N.ps.length / 2) := by
  have hle : isLeaf N = false := by unfold isLeaf; rw [decide_eq_false_iff_not]; omega
  have hsz : sizeN N = N.ps.length := by unfold sizeN; rw [hle]; rfl
  have CS := Lib.hid (size_any w N h)
  rw [hsz] at CS
  obtain ⟨q, hq⟩ : ∃ q, q = N.ps.length / 2 := ⟨_, rfl⟩
  obtain ⟨n, hn⟩ : ∃ n, n = N.ps.length := ⟨_, rfl⟩
  have CK : ∀ w2, Row w2 2 N.kv (N.ks.map i64) → Hid (Calls Tryz.prog 152 #[N.kv, i64 q] w2 fun e w' => ∃ v1 v2, e = .returned (.tuple #[v1, v2]) ∧ Re w2 2 N.kv ((N.ks.map i64).take q) v1 w' ∧ v1.ownBlock = N.kv.ownBlock ∧ Row w' 2 v2 ((N.ks.map i64).drop q) ∧ (∀ k, v2.ownBlock = some k → w2.heap.size ≤ k)) :=
    fun w2 hr => Lib.hid (cut_any_K w2 N.kv q (N.ks.map i64) hr (by rw [List.length_map]; omega) (by rw [List.length_map]; omega) i64_one)
  have CP : ∀ w2, Row w2 91 N.pv (N.ps.map ptrv) → Hid (Calls Tryz.prog 154 #[N.pv, i64 q] w2 fun e w' => ∃ v1 v2, e = .returned (.tuple #[v1, v2]) ∧ Re w2 91 N.pv ((N.ps.map ptrv).take q) v1 w' ∧ v1.ownBlock = N.pv.ownBlock ∧ Row w' 91 v2 ((N.ps.map ptrv).drop q) ∧ (∀ k, v2.ownBlock = some k → w2.heap.size ≤ k)) :=
    fun w2 hr => Lib.hid (cut_any_Q w2 N.pv q (N.ps.map ptrv) hr (by rw [List.length_map]; omega) (by rw [List.length_map]; omega) ptr_one)
  obtain ⟨ao, cap, hk, _, _⟩ := h.kform
  obtain ⟨ao2, cap2, hp, _, _⟩ := h.pform
  have HK := Lib.hid hk
  have HP := Lib.hid hp
  have HH := Lib.hid h
  have HLE := Lib.hid hle
  have hqn : (n : Int) / 2 = (q : Int) := by omega
  have HQ := Lib.hid hq
  have HN := Lib.hid hn
  obtain ⟨kk, hkk⟩ : ∃ kk, kk = N.ks.getD (q - 1) 0 := ⟨_, rfl⟩
  have HTK : Hid ((N.ks.take q).length = q) := by
    show (N.ks.take q).length = q
    rw [List.length_take]; omega
  have HTT : Hid ((N.ks.take q).take (q - 1) = N.ks.take (q - 1)) := by
    show (N.ks.take q).take (q - 1) = N.ks.take (q - 1)
    rw [List.take_take, Nat.min_eq_left (by omega)]
  have HGD : Hid ((N.ks.take q).getD (q - 1) 0 = kk) := by
    show (N.ks.take q).getD (q - 1) 0 = kk
    rw [hkk, List.getD_eq_getElem?_getD, List.getD_eq_getElem?_getD, List.getElem?_take, if_pos (by omega)]
  have HVS := Lib.hid hv
  rw [← hq, ← hkk]
  clear hkk
  rw [← hn] at CS HP
  have hq1 : 1 ≤ q := by omega
  have hqb : q ≤ 100 := by omega
  have hq64 : wrap64 (q : Int) = (q : Int) := by unfold wrap64; omega
  clear h hp hl hlo hhi hk hv hle hsz hq hn
  go_enter Tryz.func137, Tryz.ntmps137
  go_wp2_with (go_at_call 111; refine CS.out.mono ?_; rintro e w' ⟨rfl, rfl⟩)
  have T1 := Two.start w N HH.out
  generalize w.alloc (.cells #[.slice none 0 0, .slice none 0 0, .slice none 0 0] 160) = w1 at T1 ⊢
  have CL := leaf_any w1 N T1.na
  rw [HLE.out] at CL
  have J0 := CP w1 T1.na.rp
  have d0 := T1.na.c2
  rw [HP.out] at d0 J0
  have HT1 := Lib.hid T1
  clear T1 CP
  refine CL.mono ?_
  clear CL
  rintro e w' ⟨rfl, rfl⟩
  go_wp2_with (go_at_call 154; refine J0.out.mono ?_)
  first | (rintro e w2 v1 v2 rfl r1 r2 r3 r4) | (rintro e w2 ⟨v1, v2, rfl, r1, r2, r3, r4⟩)
  rw [← List.map_take] at r1
  rw [← List.map_drop] at r3
  have hb2 := HT1.out.p1 (by rw [HP.out]; exact r1)
  have HB2 := Lib.hid hb2
  have o1 := Lib.hid r1.row.one
  have o2 := Lib.hid r3.one
  have R1 := Lib.hid r1
  have R2 := Lib.hid r2
  have R3 := Lib.hid r3
  have R4 := Lib.hid r4
  clear r1 r2 r3 r4 hb2 J0
  go_wp2_with (refine wpList_store rfl 158 _ _ rfl N.b 2 160 _ [v1] _ rfl rfl HB2.out o1.out.2 size68 (by simp) (one1 o1.out.1) ?_)
  intro w3 hb3 hw3
  have hb3' := HT1.out.p2 (by rw [HP.out]; exact R1.out) hw3
  have HB3 := Lib.hid hb3
  have HB3' := Lib.hid hb3'
  have HW3 := Lib.hid hw3
  clear hb3 hb3' hw3
  go_wp2_with (refine wpList_store rfl 158 _ _ rfl _ 2 160 _ [v2] _ rfl rfl HB3'.out o2.out.2 size68 (by simp) (one1 o2.out.1) ?_)
  intro w4 hb4 hw4
  have T2 := HT1.out.p3 (a := N.ps.take q) (b := N.ps.drop q) (by rw [HP.out]; exact R1.out) (by rw [HP.out]; exact R2.out) R3.out R4.out HB3.out HW3.out hb4 hw4
  have HT2 := Lib.hid T2
  have J := CK w4 T2.na.rk
  have d1 := T2.na.c0
  simp only at d1
  rw [HK.out] at d1 J
  clear hb4 hw4 T2 CK
  go_wp2_with (go_at_call 152; refine J.out.mono ?_)
  first | (rintro e w5 u1 u2 rfl r1 r2 r3 r4) | (rintro e w5 ⟨u1, u2, rfl, r1, r2, r3, r4⟩)
  have RW := Lib.hid r1.row
  rw [← List.map_take] at r1
  rw [← List.map_drop] at r3
  have hb2 := HT2.out.k1 (a := N.ks.take q) (by simp only; rw [HK.out]; exact r1)
  have HC2 := Lib.hid hb2
  have p1 := Lib.hid r1.row.one
  have p2 := Lib.hid r3.one
  have S1 := Lib.hid r1
  have S2 := Lib.hid r2
  have S3 := Lib.hid r3
  have S4 := Lib.hid r4
  clear r1 r2 r3 r4 hb2 J
  go_wp2_with (refine wpList_store rfl 47 _ _ rfl N.b 0 160 _ [u1] _ rfl rfl HC2.out p1.out.2 size36 (by simp) (one1 p1.out.1) ?_)
  intro w6 hb3 hw3
  have hb3' := HT2.out.k2 (a := N.ks.take q) (by simp only; rw [HK.out]; exact S1.out) hw3
  have HC3 := Lib.hid hb3
  have HC3' := Lib.hid hb3'
  have HW6 := Lib.hid hw3
  clear hb3 hb3' hw3
  go_wp2_with (refine wpList_store rfl 47 _ _ rfl _ 0 160 _ [u2] _ rfl rfl HC3'.out p2.out.2 size36 (by simp) (one1 p2.out.1) ?_)
  intro w7 hb4 hw4
  have T3 := HT2.out.k3 (a := N.ks.take q) (b := N.ks.drop q) (by simp only; rw [HK.out]; exact S1.out) (by simp only; rw [HK.out]; exact S2.out) S3.out S4.out HC3.out HW6.out hb4 hw4
  have HT3 := Lib.hid T3
  have hrow : Row w7 2 u1 ((N.ks.take q).map i64) := T3.na.rk
  obtain ⟨g, cp, hfm, hlc, hmc, hce⟩ := hrow.int_at (j := q - 1) (by rw [HTK.out]; omega)
  rw [HGD.out] at hce
  rw [HTK.out] at hfm hlc
  have hrt := Row.take (by rw [← hfm]; exact hrow) (q - 1) (by rw [List.length_map, HTK.out]; omega) (cap := cp)
  rw [← List.map_take, HTT.out] at hrt
  have e0 := T3.na.c0
  simp only at e0
  rw [hfm] at e0
  have HFM := Lib.hid hfm
  have HRT := Lib.hid hrt
  have HBL := Lib.hid T3.na.blk
  unfold maxLen at hmc
  clear hb4 hw4 T3 hfm hrow hrt
  clear hq64
  have hw1 : IntKind.i64.wrap ((q : Int) - 1) = ((q - 1 : Nat) : Int) := by rw [IntKind.wrap_i64]; omega
  have hw1' : (q : Int) - 1 = ((q - 1 : Nat) : Int) := by omega
  have hq1l : q - 1 < q := by omega
  have hq1c : q - 1 ≤ cp := by omega
  have HQ1 := Lib.hid hq1
  clear hq1 HQ HN
  go_wp2_with (refine wpList_store rfl 47 _ _ rfl N.b 0 160 _ [.slice (some ⟨g, 0, none⟩) (q - 1) cp] _ rfl rfl HBL.out rfl size36 (by simp) (one1 rfl) ?_)
  intro w8 hb8 hw8
  have X : Nx w7 _ w8 _ := Nx.keys (ks' := N.ks.take (q - 1)) HT3.out.na ⟨HRT.out, Fr.refl _ _, fun k hk => .inl (by simp only; rw [HFM.out]; exact hk)⟩ hb8 hw8
  have T4 := HT3.out.nx X (fun k hk => by
    rcases hk with hk | hk | hk | hk
    · exact .inl hk
    · exact .inr (.inl (by simp only; rw [HFM.out]; exact hk))
    · exact .inr (.inr (.inl hk))
    · exact .inr (.inr (.inr hk)))
  have HT4 := Lib.hid T4
  clear hb8 hw8 X T4
  go_wp2
  go_ret2
  refine ⟨_, _, _, _, ?_, HT4.out, rfl, rfl, rfl⟩
  rfl
end Go.Proofs.YtjfpeklfgnajoaaGreat.L6

namespace Go.Proofs.YtjfpeklfgnajoaaGreat.L6
open Go.ChangeShapes Go.WideShapes Go.ChangeAt Go.RowKit By Reg
set_option linter.unusedVariables false

section
variable {P : Program} {w : World} {ops : Array Oper} {o : Oper} {a : Act} {Q : Exit → Act → World → Prop}
theorem step_store {K : Act → World → Prop} {E : Prop} (hg : o.guard = none) (ty : TypeId) (x y : Operand) (ho : o.op = .store ty x y) (N off : Nat) (T : TypeId) (cs vs : List Value) (v : Value) (hx : a.eval x = .pointer (some ⟨N, off, none⟩)) (hy : a.eval y = v)
    (hb : Blk w N T cs) (hv : v.cells = vs.toArray) (hs : (P.info? ty).map (·.size) = some vs.length) (hl : off + vs.length ≤ cs.length) (h1 : ∀ v ∈ vs, v.oneCell' = true)
    (hK : ∀ w', Blk w' N T (cs.take off ++ vs ++ cs.drop (off + vs.length)) → Wrote N w w' → K (a.put o.dst undef) w') : if Region.wanted o (yielded ops a.tmps) = true then Oper.wp P o a w K Q else E := by
  obtain ⟨w', hr, h2, h3⟩ := run_store_blk (P := P) (v := v) hb hv hs hl h1
  rw [if_pos (by simp [Region.wanted, hg])]
  unfold Oper.wp
  simp only [execOp, ho, hx, hy, Sem.run_bind, hr]
  exact hK w' h2 h3
end

/-- three nodes on their way: the parent, and two of its parts -/
structure Tri (w0 : World) (N0 A0 : Nd) (w : World) (N A B : Nd) : Prop where
  na : NodeAt w N
  aa : NodeAt w A
  ba : NodeAt w B
  nb : N.b = N0.b
  ab : A.b = A0.b
  nh : ∀ k, N.has k → N0.has k ∨ w0.heap.size ≤ k
  ah : ∀ k, A.has k → A0.has k ∨ w0.heap.size ≤ k
  oA : ∀ k, N.has k → ¬ A.has k
  oB : ∀ k, N.has k → ¬ B.has k
  oAB : ∀ k, A.has k → ¬ B.has k
  fr : Fr (fun k => N0.has k ∨ A0.has k) w0 w

namespace Tri
variable {w0 w w' : World} {N0 A0 N A B N' A' : Nd}
theorem start {w : World} {N A B : Nd} (hn : NodeAt w N) (ha : NodeAt w A) (hb : NodeAt w B) (oA : ∀ k, N.has k → ¬ A.has k) (oB : ∀ k, N.has k → ¬ B.has k) (oAB : ∀ k, A.has k → ¬ B.has k) : Tri w N A w N A B :=
  ⟨hn, ha, hb, rfl, rfl, fun _ h => .inl h, fun _ h => .inl h, oA, oB, oAB, Fr.refl _ _⟩
theorem stepA (h : Tri w0 N0 A0 w N A B) (x : Nx w A w' A') : Tri w0 N0 A0 w' N A' B := by
  have hs := h.fr.size
  have new : ∀ k, A'.has k → A.has k ∨ w.heap.size ≤ k := x.has
  refine ⟨h.na.fr x.fr (fun k hk hk' => h.oA k hk hk'), x.at_, h.ba.fr x.fr (fun k hk hk' => h.oAB k hk' hk), h.nb, x.b.trans h.ab, h.nh, fun k hk => ?_, fun k hk hk' => ?_, h.oB, fun k hk hk' => ?_, h.fr.trans x.fr fun k hk => ?_⟩
  · rcases new k hk with h' | h'
    · exact h.ah k h'
    · exact .inr (by omega)
  · rcases new k hk' with h' | h'
    · exact h.oA k hk h'
    · have := h.na.lt k hk; omega
  · rcases new k hk with h' | h'
    · exact h.oAB k h' hk'
    · have := h.ba.lt k hk'; omega
  · rcases h.ah k hk with h' | h'
    · exact .inl (.inr h')
    · exact .inr h'
theorem stepN (h : Tri w0 N0 A0 w N A B) (x : Nx w N w' N') : Tri w0 N0 A0 w' N' A B := by
  have hs := h.fr.size
  have new : ∀ k, N'.has k → N.has k ∨ w.heap.size ≤ k := x.has
  refine ⟨x.at_, h.aa.fr x.fr (fun k hk hk' => h.oA k hk' hk), h.ba.fr x.fr (fun k hk hk' => h.oB k hk' hk), x.b.trans h.nb, h.ab, fun k hk => ?_, h.ah, fun k hk hk' => ?_, fun k hk hk' => ?_, h.oAB, h.fr.trans x.fr fun k hk => ?_⟩
  · rcases new k hk with h' | h'
    · exact h.nh k h'
    · exact .inr (by omega)
  · rcases new k hk with h' | h'
    · exact h.oA k h' hk'
    · have := h.aa.lt k hk'; omega
  · rcases new k hk with h' | h'
    · exact h.oB k h' hk'
    · have := h.ba.lt k hk'; omega
  · rcases h.nh k hk with h' | h'
    · exact .inl (.inl h')
    · exact .inr h'
theorem rb (h : Tri w0 N0 A0 w N A B) (hr : Rb w w') : Tri w0 N0 A0 w' N A B :=
  ⟨h.na.rb hr, h.aa.rb hr, h.ba.rb hr, h.nb, h.ab, h.nh, h.ah, h.oA, h.oB, h.oAB, h.fr.then_rb hr⟩
end Tri

theorem blk_setCell {w : World} {N : Nat} {T : TypeId} {cs : List Value} (h : Blk w N T cs) {off : Nat} (hl : off < cs.length) (v : Value) : Blk (w.setCell ⟨N, off, none⟩ v) N T (splice cs off [v]) ∧ Wrote N w (w.setCell ⟨N, off, none⟩ v) :=
  blk_setCells N T [v] off w cs h hl

theorem Re.of_append {w w' : World} {e : TypeId} {v v' : Value} {xs : List Value} (h : Row w' e v' xs) (hg : w.grownBy w' v.ownBlock) (hn : NewRow w v v') : Re w e v xs v' w' :=
  ⟨h, (Fr.refl _ w).grown hg (fun k hk => .inl hk), hn⟩

theorem append_keys {w : World} {A : Nd} (h : NodeAt w A) {v2 : Value} {ys : List Int} (hs : Sl w v2 (ys.map i64)) (hb : A.ks.length + ys.length ≤ 1000) :
    ∃ v' w', (∀ ty, (Builtin.append_ #[47, 47] ty #[A.kv, v2]).run Tryz.prog w = .ok v' w') ∧ Re w 2 A.kv ((A.ks ++ ys).map i64) v' w' := by
  obtain ⟨i0, hi0, hz0, hzs, hzb⟩ := info_parts info_K
  obtain ⟨v', w', hra, h2, h3, h4⟩ := run_append_row (P := Tryz.prog) Tryz.underlying47 hi0 hz0 hzs hzb (by omega) rfl h.rk hs i64_one (by simp; omega)
  rw [← List.map_append] at h2
  exact ⟨v', w', hra, Re.of_append h2 h3 h4⟩
theorem append_vals {w : World} {A : Nd} (h : NodeAt w A) {v2 : Value} {ys : List SV} (hs : Sl w v2 (ys.map sv)) (hb : A.vs.length + ys.length ≤ 1000) :
    ∃ v' w', (∀ ty, (Builtin.append_ #[157, 157] ty #[A.vv, v2]).run Tryz.prog w = .ok v' w') ∧ Re w 32 A.vv ((A.vs ++ ys).map sv) v' w' := by
  obtain ⟨i0, hi0, hz0, hzs, hzb⟩ := info_parts info_V
  obtain ⟨v', w', hra, h2, h3, h4⟩ := run_append_row (P := Tryz.prog) Tryz.underlying157 hi0 hz0 hzs hzb (by omega) rfl h.rv hs sv_one (by simp; omega)
  rw [← List.map_append] at h2
  exact ⟨v', w', hra, Re.of_append h2 h3 h4⟩
theorem append_parts {w : World} {A : Nd} (h : NodeAt w A) {v2 : Value} {ys : List Nat} (hs : Sl w v2 (ys.map ptrv)) (hb : A.ps.length + ys.length ≤ 1000) :
    ∃ v' w', (∀ ty, (Builtin.append_ #[158, 158] ty #[A.pv, v2]).run Tryz.prog w = .ok v' w') ∧ Re w 91 A.pv ((A.ps ++ ys).map ptrv) v' w' := by
  obtain ⟨i0, hi0, hz0, hzs, hzb⟩ := info_parts info_Q
  obtain ⟨v', w', hra, h2, h3, h4⟩ := run_append_row (P := Tryz.prog) Tryz.underlying158 hi0 hz0 hzs hzb (by omega) rfl h.rp hs ptr_one (by simp; omega)
  rw [← List.map_append] at h2
  exact ⟨v', w', hra, Re.of_append h2 h3 h4⟩
end Go.Proofs.YtjfpeklfgnajoaaGreat.L6

namespace Go.Proofs.YtjfpeklfgnajoaaGreat.L6
open Go.ChangeShapes Go.WideShapes Go.ChangeAt Go.RowKit By Reg
set_option linter.unusedVariables false

set_option maxHeartbeats 2000000 in
set_option maxRecDepth 100000 in
theorem join_leaf (w : World) (N A B : Nd) (at_ : Nat) (h : Tri w N A w N A B) (hA : A.ps = [])
    (ha : N.ps[at_]? = some A.b) (hb : N.ps[at_ + 1]? = some B.b) (hl : N.ps.length = N.ks.length + 1) (hn : N.ps.length ≤ 100) (lA : A.ks.length ≤ 100) (lB : B.ks.length ≤ 100) (lv : A.vs.length ≤ 100) (lw : B.vs.length ≤ 100) (lp : A.ps.length ≤ 100) (lq : B.ps.length ≤ 100) :
    Calls Tryz.prog 150 #[ptrv N.b, i64 at_] w fun e w' => (∃ v, e = .returned v) ∧
      ∃ kv pv kA vA pA, Tri w N A w' { N with kv := kv, pv := pv, ks := N.ks.take at_ ++ N.ks.drop (at_ + 1), ps := N.ps.take (at_ + 1) ++ N.ps.drop (at_ + 2) } { A with kv := kA, vv := vA, pv := pA, ks := A.ks ++ B.ks, vs := A.vs ++ B.vs, ps := A.ps ++ B.ps } B := by
  have hle : isLeaf A = true := by unfold isLeaf; rw [hA]; rfl
  have hal : at_ + 1 < N.ps.length := (List.getElem?_eq_some_iff.1 hb).1
  have part : ∀ j (q : Nat), N.ps[j]? = some q → ∃ g cap, N.pv = .slice (some ⟨g, 0, none⟩) N.ps.length cap ∧ N.ps.length ≤ cap ∧ w.cell? ⟨g, j, none⟩ = some (ptrv q) := fun j q hj => by
    have hjl := (List.getElem?_eq_some_iff.1 hj)
    obtain ⟨g, cap, h1, h2, h3, h4⟩ := h.na.rp.at_ (j := j) (by rw [List.length_map]; exact hjl.1)
    rw [List.length_map] at h1 h2
    refine ⟨g, cap, h1, h2, ?_⟩
    rw [h4, List.getElem_map, hjl.2]
  obtain ⟨g, cap, hp, hc, ha'⟩ := part _ _ ha
  obtain ⟨g', cap', hp', _, hb'⟩ := part _ _ hb
  rw [hp] at hp'
  simp only [Value.slice.injEq, Option.some.injEq, Addr.mk.injEq, and_true, true_and] at hp'
  obtain ⟨rfl, rfl⟩ := hp'
  have c2 := h.na.c2
  rw [hp] at c2
  have H := Lib.hid h
  have HP := Lib.hid hp
  have HLE := Lib.hid hle
  obtain ⟨gk, capk, hk, hkc, hkm, hkce⟩ := h.na.rk.int_at (j := at_) (by omega)
  have HK := Lib.hid hk
  have HKE := Lib.hid hkce
  obtain ⟨kk, hkk⟩ : ∃ kk, kk = N.ks.getD at_ 0 := ⟨_, rfl⟩
  rw [← hkk] at HKE
  clear hkk
  obtain ⟨a0, q0, h0, _, _⟩ := h.aa.kform
  obtain ⟨a1, q1, h1, _, _⟩ := h.aa.vform
  obtain ⟨a2, q2, h2, _, _⟩ := h.aa.pform
  obtain ⟨b0, r0, g0, _, _⟩ := h.ba.kform
  obtain ⟨b1, r1, g1, _, _⟩ := h.ba.vform
  obtain ⟨b2, r2, g2, _, _⟩ := h.ba.pform
  have H0 := Lib.hid h0
  have H1 := Lib.hid h1
  have H2 := Lib.hid h2
  have G0 := Lib.hid g0
  have G1 := Lib.hid g1
  have G2 := Lib.hid g2
  obtain ⟨n, hnn⟩ : ∃ n, n = N.ps.length := ⟨_, rfl⟩
  rw [← hnn] at c2 hal hc HP
  have hw1 : IntKind.i64.wrap ((at_ : Int) + 1) = (at_ : Int) + 1 := by rw [IntKind.wrap_i64]; omega
  have hw2 : IntKind.i64.wrap ((at_ : Int) + 2) = (at_ : Int) + 2 := by rw [IntKind.wrap_i64]; omega
  have htn : ((at_ : Int) + 1).toNat = at_ + 1 := by omega
  have hb1 : (0 : Int) ≤ (at_ : Int) + 1 := by omega
  have hat : at_ < n := by omega
  have hak : at_ < N.ks.length := by omega
  have hab : at_ ≤ 100 := by omega
  have HS : Hid (A.ks.length ≤ 100 ∧ B.ks.length ≤ 100 ∧ A.vs.length ≤ 100 ∧ B.vs.length ≤ 100 ∧ A.ps.length ≤ 100 ∧ B.ps.length ≤ 100 ∧ n ≤ 100 ∧ n = N.ks.length + 1 ∧ n = N.ps.length) := ⟨lA, lB, lv, lw, lp, lq, by omega, by omega, hnn⟩
  have mixed : Tryz.prog.follows Departure.mixedOrders = true := by kernel_rfl
  clear h hp lA lB lv lw lp lq hnn hl hn part ha hb hle h0 h1 h2 g0 g1 g2 hk hkce hA
  go_enter Tryz.func150, Tryz.ntmps150
  go_wp2_with fail
  go_quiet (fail)
  go_wp2_with fail
  have T1 := H.out.rb (w' := w.drewN nq) ⟨rfl, rfl, rfl, Nat.le_refl _, fun _ _ => rfl⟩
  generalize w.drewN nq = w1 at T1 ⊢
  have CL := leaf_any w1 A T1.aa
  rw [HLE.out] at CL
  refine CL.mono ?_
  clear CL
  rintro e w' ⟨rfl, rfl⟩
  have U1 := Lib.hid T1
  clear T1 c2 ha' hb'

  -- keys
  have e0 := U1.out.aa.c0
  have f0 := U1.out.ba.c0
  try dsimp only at e0 f0
  rw [H0.out] at e0
  rw [G0.out] at f0
  have T := U1.out.rb (Rb.drew w1)
  obtain ⟨v1, y1, ra, re⟩ := append_keys T.aa T.ba.rk.sl (by have := HS.out; simp; omega)
  try dsimp only at ra re
  rw [H0.out, G0.out] at ra
  have hb2 := T.aa.blk.same (re.fr.block _ T.aa.blk.lt T.aa.kb)
  try dsimp only at hb2
  have z0 : y1.cell? ⟨A.b, 0, none⟩ = some (A.kv) := hb2.cell 0
  have zf : y1.frozen? ⟨A.b, 0, none⟩ = false := hb2.frozen 0
  rw [H0.out] at z0
  have HB2 := Lib.hid hb2
  have HRE := Lib.hid re
  have HT := Lib.hid T
  obtain ⟨ao1, cap1, hk3, _, _⟩ := re.row.form
  generalize (List.map _ _).length = m1 at hk3
  subst hk3
  clear hb2 re T
  go_wp2_with fail
  go_cut [4] from 40 to 51 (fun c wx => c = ptrv A.b ∧ Blk wx A.b 160 [.slice ao1 m1 cap1, A.vv, A.pv] ∧ Wrote A.b y1 wx)
  case first =>
    go_region_law_o (refine step_run_append rfl rfl (by simp [Act.eval]) (by simp [Act.eval]) (ra _) ?_)
    all_goals
      go_wp2_with fail
      go_meet
      exact ⟨rfl, blk_setCell HB2.out (by simp) _⟩
  case rest =>
  obtain ⟨rfl, hb3, hw3⟩ := hcut
  have U2 := Lib.hid (HT.out.stepA (Nx.keys HT.out.aa HRE.out hb3 hw3))
  clear hb3 hw3 HT HRE HB2 ra U1 z0 zf e0 f0
  generalize wc = w2 at *

  -- vals
  have e0 := U2.out.aa.c1
  have f0 := U2.out.ba.c1
  try dsimp only at e0 f0
  rw [H1.out] at e0
  rw [G1.out] at f0
  have T := U2.out.rb (Rb.drew w2)
  obtain ⟨v2, y2, ra, re⟩ := append_vals T.aa T.ba.rv.sl (by have := HS.out; simp; omega)
  try dsimp only at ra re
  rw [H1.out, G1.out] at ra
  have hb2 := T.aa.blk.same (re.fr.block _ T.aa.blk.lt T.aa.vb)
  try dsimp only at hb2
  have z0 : y2.cell? ⟨A.b, 1, none⟩ = some (A.vv) := hb2.cell 1
  have zf : y2.frozen? ⟨A.b, 1, none⟩ = false := hb2.frozen 1
  rw [H1.out] at z0
  have HB2 := Lib.hid hb2
  have HRE := Lib.hid re
  have HT := Lib.hid T
  obtain ⟨ao2, cap2, hk3, _, _⟩ := re.row.form
  generalize (List.map _ _).length = m2 at hk3
  subst hk3
  clear hb2 re T
  go_wp2_with fail
  go_cut [4] from 52 to 63 (fun c wx => c = ptrv A.b ∧ Blk wx A.b 160 [.slice ao1 m1 cap1, .slice ao2 m2 cap2, A.pv] ∧ Wrote A.b y2 wx)
  case first =>
    go_region_law_o (refine step_run_append rfl rfl (by simp [Act.eval]) (by simp [Act.eval]) (ra _) ?_)
    all_goals
      go_wp2_with fail
      go_meet
      exact ⟨rfl, blk_setCell HB2.out (by simp) _⟩
  case rest =>
  obtain ⟨rfl, hb3, hw3⟩ := hcut
  have U3 := Lib.hid (HT.out.stepA (Nx.vals HT.out.aa HRE.out hb3 hw3))
  clear hb3 hw3 HT HRE HB2 ra U2 z0 zf e0 f0
  generalize wc = w3 at *

  -- parts
  have e0 := U3.out.aa.c2
  have f0 := U3.out.ba.c2
  try dsimp only at e0 f0
  rw [H2.out] at e0
  rw [G2.out] at f0
  have T := U3.out.rb (Rb.drew w3)
  obtain ⟨v3, y3, ra, re⟩ := append_parts T.aa T.ba.rp.sl (by have := HS.out; simp; omega)
  try dsimp only at ra re
  rw [H2.out, G2.out] at ra
  have hb2 := T.aa.blk.same (re.fr.block _ T.aa.blk.lt T.aa.pb)
  try dsimp only at hb2
  have z0 : y3.cell? ⟨A.b, 2, none⟩ = some (A.pv) := hb2.cell 2
  have zf : y3.frozen? ⟨A.b, 2, none⟩ = false := hb2.frozen 2
  rw [H2.out] at z0
  have HB2 := Lib.hid hb2
  have HRE := Lib.hid re
  have HT := Lib.hid T
  obtain ⟨ao3, cap3, hk3, _, _⟩ := re.row.form
  generalize (List.map _ _).length = m3 at hk3
  subst hk3
  clear hb2 re T
  go_wp2_with fail
  go_cut [4] from 64 to 75 (fun c wx => c = ptrv A.b ∧ Blk wx A.b 160 [.slice ao1 m1 cap1, .slice ao2 m2 cap2, .slice ao3 m3 cap3] ∧ Wrote A.b y3 wx)
  case first =>
    go_region_law_o (refine step_run_append rfl rfl (by simp [Act.eval]) (by simp [Act.eval]) (ra _) ?_)
    all_goals
      go_wp2_with fail
      go_meet
      exact ⟨rfl, blk_setCell HB2.out (by simp) _⟩
  case rest =>
  obtain ⟨rfl, hb3, hw3⟩ := hcut
  have U4 := Lib.hid (HT.out.stepA (Nx.parts HT.out.aa HRE.out hb3 hw3))
  clear hb3 hw3 HT HRE HB2 ra U3 z0 zf e0 f0
  generalize wc = w4 at *

  -- keys of the parent
  have e0 := U4.out.na.c0
  try dsimp only at e0
  rw [HK.out] at e0
  have J := delete_any_K w4 N.kv at_ (at_ + 1) (N.ks.map i64) U4.out.na.rk (by omega) (by have := HS.out; rw [List.length_map]; omega) i64_one
  rw [← List.map_take, ← List.map_drop, ← List.map_append, HK.out] at J
  rw [show ((at_ + 1 : Nat) : Int) = (at_ : Int) + 1 by omega] at J
  have HJ := Lib.hid J
  clear J
  go_wp2_with (go_at_call 148; refine HJ.out.mono ?_)
  first | (rintro e x4 v4 rfl re -) | (rintro e x4 ⟨v4, rfl, re, -⟩)
  have hb2 := U4.out.na.blk.same (re.fr.block _ U4.out.na.blk.lt (fun e => U4.out.na.kb (by (try dsimp only); rw [HK.out]; exact e)))
  try dsimp only at hb2
  have HB2 := Lib.hid hb2
  have HRE := Lib.hid re
  have o1 := Lib.hid re.row.one
  clear hb2 re e0 HJ
  go_wp2_with (refine wpList_store rfl 47 _ _ rfl N.b 0 160 _ [v4] _ rfl rfl HB2.out o1.out.2 size36 (by simp) (one1 o1.out.1) ?_)
  intro w5 hb3 hw3
  have U5 := Lib.hid (U4.out.stepN (Nx.keys (ks' := N.ks.take at_ ++ N.ks.drop (at_ + 1)) U4.out.na (by have q := HRE.out; (try dsimp only); rw [HK.out]; simpa only [List.map_append, List.map_take, List.map_drop] using q) hb3 hw3))
  clear hb3 hw3 HRE HB2 o1 U4

  -- parts of the parent
  have e0 := U5.out.na.c2
  try dsimp only at e0
  rw [HP.out] at e0
  have J := delete_any_Q w5 N.pv (at_ + 1) (at_ + 2) (N.ps.map ptrv) U5.out.na.rp (by omega) (by have := HS.out; rw [List.length_map]; omega) ptr_one
  rw [← List.map_take, ← List.map_drop, ← List.map_append, HP.out] at J
  rw [show ((at_ + 1 : Nat) : Int) = (at_ : Int) + 1 by omega, show ((at_ + 2 : Nat) : Int) = (at_ : Int) + 2 by omega] at J
  have HJ := Lib.hid J
  clear J
  go_wp2_with (go_at_call 170; refine HJ.out.mono ?_)
  first | (rintro e x5 v5 rfl re -) | (rintro e x5 ⟨v5, rfl, re, -⟩)
  have hb2 := U5.out.na.blk.same (re.fr.block _ U5.out.na.blk.lt (fun e => U5.out.na.pb (by (try dsimp only); rw [HP.out]; exact e)))
  try dsimp only at hb2
  have HB2 := Lib.hid hb2
  have HRE := Lib.hid re
  have o1 := Lib.hid re.row.one
  clear hb2 re e0 HJ
  go_wp2_with (refine wpList_store rfl 158 _ _ rfl N.b 2 160 _ [v5] _ rfl rfl HB2.out o1.out.2 size68 (by simp) (one1 o1.out.1) ?_)
  intro w6 hb3 hw3
  have U6 := Lib.hid (U5.out.stepN (Nx.parts (ps' := N.ps.take (at_ + 1) ++ N.ps.drop (at_ + 2)) U5.out.na (by have q := HRE.out; (try dsimp only); rw [HP.out]; simpa only [List.map_append, List.map_take, List.map_drop] using q) hb3 hw3))
  clear hb3 hw3 HRE HB2 o1 U5

  go_wp2
  go_end0
  exact ⟨⟨_, rfl⟩, _, _, _, _, _, U6.out⟩
end Go.Proofs.YtjfpeklfgnajoaaGreat.L6

namespace Go.Proofs.YtjfpeklfgnajoaaGreat.L6
open Go.ChangeShapes Go.WideShapes Go.ChangeAt Go.RowKit By Reg
set_option linter.unusedVariables false

set_option maxHeartbeats 2000000 in
set_option maxRecDepth 100000 in
theorem join_inner (w : World) (N A B : Nd) (at_ : Nat) (h : Tri w N A w N A B) (hA : 0 < A.ps.length)
    (ha : N.ps[at_]? = some A.b) (hb : N.ps[at_ + 1]? = some B.b) (hl : N.ps.length = N.ks.length + 1) (hn : N.ps.length ≤ 100) (lA : A.ks.length ≤ 100) (lB : B.ks.length ≤ 100) (lv : A.vs.length ≤ 100) (lw : B.vs.length ≤ 100) (lp : A.ps.length ≤ 100) (lq : B.ps.length ≤ 100) :
    Calls Tryz.prog 150 #[ptrv N.b, i64 at_] w fun e w' => (∃ v, e = .returned v) ∧
      ∃ kv pv kA vA pA, Tri w N A w' { N with kv := kv, pv := pv, ks := N.ks.take at_ ++ N.ks.drop (at_ + 1), ps := N.ps.take (at_ + 1) ++ N.ps.drop (at_ + 2) } { A with kv := kA, vv := vA, pv := pA, ks := A.ks ++ N.ks.getD at_ 0 :: B.ks, vs := A.vs ++ B.vs, ps := A.ps ++ B.ps } B := by
  have hle : isLeaf A = false := by unfold isLeaf; rw [decide_eq_false_iff_not]; omega
  have hal : at_ + 1 < N.ps.length := (List.getElem?_eq_some_iff.1 hb).1
  have part : ∀ j (q : Nat), N.ps[j]? = some q → ∃ g cap, N.pv = .slice (some ⟨g, 0, none⟩) N.ps.length cap ∧ N.ps.length ≤ cap ∧ w.cell? ⟨g, j, none⟩ = some (ptrv q) := fun j q hj => by
    have hjl := (List.getElem?_eq_some_iff.1 hj)
    obtain ⟨g, cap, h1, h2, h3, h4⟩ := h.na.rp.at_ (j := j) (by rw [List.length_map]; exact hjl.1)
    rw [List.length_map] at h1 h2
    refine ⟨g, cap, h1, h2, ?_⟩
    rw [h4, List.getElem_map, hjl.2]
  obtain ⟨g, cap, hp, hc, ha'⟩ := part _ _ ha
  obtain ⟨g', cap', hp', _, hb'⟩ := part _ _ hb
  rw [hp] at hp'
  simp only [Value.slice.injEq, Option.some.injEq, Addr.mk.injEq, and_true, true_and] at hp'
  obtain ⟨rfl, rfl⟩ := hp'
  have c2 := h.na.c2
  rw [hp] at c2
  have H := Lib.hid h
  have HP := Lib.hid hp
  have HLE := Lib.hid hle
  obtain ⟨gk, capk, hk, hkc, hkm, hkce⟩ := h.na.rk.int_at (j := at_) (by omega)
  have HK := Lib.hid hk
  have HKE := Lib.hid hkce
  obtain ⟨kk, hkk⟩ : ∃ kk, kk = N.ks.getD at_ 0 := ⟨_, rfl⟩
  rw [← hkk] at HKE ⊢
  have HKK : Hid (N.ks.getD at_ 0 = kk) := hkk.symm
  clear hkk
  obtain ⟨a0, q0, h0, _, _⟩ := h.aa.kform
  obtain ⟨a1, q1, h1, _, _⟩ := h.aa.vform
  obtain ⟨a2, q2, h2, _, _⟩ := h.aa.pform
  obtain ⟨b0, r0, g0, _, _⟩ := h.ba.kform
  obtain ⟨b1, r1, g1, _, _⟩ := h.ba.vform
  obtain ⟨b2, r2, g2, _, _⟩ := h.ba.pform
  have H0 := Lib.hid h0
  have H1 := Lib.hid h1
  have H2 := Lib.hid h2
  have G0 := Lib.hid g0
  have G1 := Lib.hid g1
  have G2 := Lib.hid g2
  obtain ⟨n, hnn⟩ : ∃ n, n = N.ps.length := ⟨_, rfl⟩
  rw [← hnn] at c2 hal hc HP
  have hw1 : IntKind.i64.wrap ((at_ : Int) + 1) = (at_ : Int) + 1 := by rw [IntKind.wrap_i64]; omega
  have hw2 : IntKind.i64.wrap ((at_ : Int) + 2) = (at_ : Int) + 2 := by rw [IntKind.wrap_i64]; omega
  have htn : ((at_ : Int) + 1).toNat = at_ + 1 := by omega
  have hb1 : (0 : Int) ≤ (at_ : Int) + 1 := by omega
  have hat : at_ < n := by omega
  have hak : at_ < N.ks.length := by omega
  have hab : at_ ≤ 100 := by omega
  have HS : Hid (A.ks.length ≤ 100 ∧ B.ks.length ≤ 100 ∧ A.vs.length ≤ 100 ∧ B.vs.length ≤ 100 ∧ A.ps.length ≤ 100 ∧ B.ps.length ≤ 100 ∧ n ≤ 100 ∧ n = N.ks.length + 1 ∧ n = N.ps.length) := ⟨lA, lB, lv, lw, lp, lq, by omega, by omega, hnn⟩
  have mixed : Tryz.prog.follows Departure.mixedOrders = true := by kernel_rfl
  clear h hp lA lB lv lw lp lq hnn hl hn part ha hb hle h0 h1 h2 g0 g1 g2 hk hkce hA
  go_enter Tryz.func150, Tryz.ntmps150
  go_wp2_with fail
  go_quiet (fail)
  go_wp2_with fail
  have T1 := H.out.rb (w' := w.drewN nq) ⟨rfl, rfl, rfl, Nat.le_refl _, fun _ _ => rfl⟩
  generalize w.drewN nq = w1 at T1 ⊢
  have CL := leaf_any w1 A T1.aa
  rw [HLE.out] at CL
  refine CL.mono ?_
  clear CL
  rintro e w' ⟨rfl, rfl⟩
  have U1 := Lib.hid T1
  clear T1 c2 ha' hb'

  -- the key between
  have e0 := U1.out.aa.c0
  have f0 := U1.out.na.c0
  rw [H0.out] at e0
  rw [HK.out] at f0
  have kc : w1.cell? ⟨gk, at_, none⟩ = some (i64 kk) := by
    obtain ⟨g9, c9, p1, p2, p3, p4⟩ := U1.out.na.rk.int_at (j := at_) hak
    rw [HK.out] at p1
    cases p1
    rw [p4, HKK.out]
  have T0 := U1.out.rb (Rb.drew w1)
  have T := T0.rb (w' := w1.drew.alloc (.cells #[i64 kk] 2)) ((Below.refl _ _).alloc (Nat.le_refl _) _)
  have hsl : Sl (w1.drew.alloc (.cells #[i64 kk] 2)) (.slice (some ⟨w1.heap.size, 0, none⟩) 1 1) ([kk].map i64) := ⟨_, 1, rfl, Nat.le_refl _, by unfold maxLen; omega, (fun h => by cases h), fun ad e j u hu => by
    cases e
    have hbk : Blk (w1.drew.alloc (.cells #[i64 kk] 2)) w1.heap.size 2 [i64 kk] := Blk.new w1.drew _ [i64 kk]
    rw [Addr.add_lit, hbk.cell, Nat.zero_add]; exact hu⟩
  have e1 : (w1.alloc (.cells #[i64 kk] 2)).cell? ⟨A.b, 0, none⟩ = some A.kv := T.aa.c0
  rw [H0.out] at e1
  obtain ⟨v1, y1, ra, re⟩ := append_keys T.aa hsl (by have := HS.out; simp; omega)
  rw [H0.out] at ra
  have hb2 := T.aa.blk.same (re.fr.block _ T.aa.blk.lt T.aa.kb)
  have z0 := hb2.cell 0
  have zf : y1.frozen? ⟨A.b, 0, none⟩ = false := hb2.frozen 0
  change y1.cell? ⟨A.b, 0, none⟩ = some A.kv at z0
  rw [H0.out] at z0
  have HB2 := Lib.hid hb2
  have HRE := Lib.hid re
  have HT := Lib.hid T
  obtain ⟨ao1, cap1, hk3, _, _⟩ := re.row.form
  generalize (List.map _ _).length = m1 at hk3
  subst hk3
  clear hb2 re T T0 hsl
  go_wp2_with fail
  go_cut [4] from 24 to 39 (fun c wx => c = ptrv A.b ∧ Blk wx A.b 160 [.slice ao1 m1 cap1, A.vv, A.pv] ∧ Wrote A.b y1 wx)
  case first =>
    go_region_law_o (refine step_run_append rfl rfl (by simp [Act.eval]) (by simp [Act.eval]) (ra _) ?_)
    all_goals
      go_wp2_with fail
      go_meet
      exact ⟨rfl, blk_setCell HB2.out (by simp) _⟩
  case rest =>
  obtain ⟨rfl, hb3, hw3⟩ := hcut
  have U2 := Lib.hid (HT.out.stepA (Nx.keys HT.out.aa HRE.out hb3 hw3))
  clear hb3 hw3 HT HRE HB2 ra U1 z0 zf e0 e1 f0 kc H0
  generalize wc = w2 at *

  -- keys
  have e0 := U2.out.aa.c0
  have f0 := U2.out.ba.c0
  try dsimp only at e0 f0
  skip
  rw [G0.out] at f0
  have T := U2.out.rb (Rb.drew w2)
  obtain ⟨v2, y2, ra, re⟩ := append_keys T.aa T.ba.rk.sl (by have := HS.out; simp; omega)
  try dsimp only at ra re
  rw [G0.out] at ra
  have hb2 := T.aa.blk.same (re.fr.block _ T.aa.blk.lt T.aa.kb)
  try dsimp only at hb2
  have z0 : y2.cell? ⟨A.b, 0, none⟩ = some (.slice ao1 m1 cap1) := hb2.cell 0
  have zf : y2.frozen? ⟨A.b, 0, none⟩ = false := hb2.frozen 0
  skip
  have HB2 := Lib.hid hb2
  have HRE := Lib.hid re
  have HT := Lib.hid T
  obtain ⟨ao2, cap2, hk3, _, _⟩ := re.row.form
  generalize (List.map _ _).length = m2 at hk3
  subst hk3
  clear hb2 re T
  go_wp2_with fail
  go_cut [4] from 40 to 51 (fun c wx => c = ptrv A.b ∧ Blk wx A.b 160 [.slice ao2 m2 cap2, A.vv, A.pv] ∧ Wrote A.b y2 wx)
  case first =>
    go_region_law_o (refine step_run_append rfl rfl (by simp [Act.eval]) (by simp [Act.eval]) (ra _) ?_)
    all_goals
      go_wp2_with fail
      go_meet
      exact ⟨rfl, blk_setCell HB2.out (by simp) _⟩
  case rest =>
  obtain ⟨rfl, hb3, hw3⟩ := hcut
  have U3 := Lib.hid (HT.out.stepA (Nx.keys HT.out.aa HRE.out hb3 hw3))
  clear hb3 hw3 HT HRE HB2 ra U2 z0 zf e0 f0
  generalize wc = w3 at *

  -- vals
  have e0 := U3.out.aa.c1
  have f0 := U3.out.ba.c1
  try dsimp only at e0 f0
  rw [H1.out] at e0
  rw [G1.out] at f0
  have T := U3.out.rb (Rb.drew w3)
  obtain ⟨v3, y3, ra, re⟩ := append_vals T.aa T.ba.rv.sl (by have := HS.out; simp; omega)
  try dsimp only at ra re
  rw [H1.out, G1.out] at ra
  have hb2 := T.aa.blk.same (re.fr.block _ T.aa.blk.lt T.aa.vb)
  try dsimp only at hb2
  have z0 : y3.cell? ⟨A.b, 1, none⟩ = some (A.vv) := hb2.cell 1
  have zf : y3.frozen? ⟨A.b, 1, none⟩ = false := hb2.frozen 1
  rw [H1.out] at z0
  have HB2 := Lib.hid hb2
  have HRE := Lib.hid re
  have HT := Lib.hid T
  obtain ⟨ao3, cap3, hk3, _, _⟩ := re.row.form
  generalize (List.map _ _).length = m3 at hk3
  subst hk3
  clear hb2 re T
  go_wp2_with fail
  go_cut [4] from 52 to 63 (fun c wx => c = ptrv A.b ∧ Blk wx A.b 160 [.slice ao2 m2 cap2, .slice ao3 m3 cap3, A.pv] ∧ Wrote A.b y3 wx)
  case first =>
    go_region_law_o (refine step_run_append rfl rfl (by simp [Act.eval]) (by simp [Act.eval]) (ra _) ?_)
    all_goals
      go_wp2_with fail
      go_meet
      exact ⟨rfl, blk_setCell HB2.out (by simp) _⟩
  case rest =>
  obtain ⟨rfl, hb3, hw3⟩ := hcut
  have U4 := Lib.hid (HT.out.stepA (Nx.vals HT.out.aa HRE.out hb3 hw3))
  clear hb3 hw3 HT HRE HB2 ra U3 z0 zf e0 f0
  generalize wc = w4 at *

  -- parts
  have e0 := U4.out.aa.c2
  have f0 := U4.out.ba.c2
  try dsimp only at e0 f0
  rw [H2.out] at e0
  rw [G2.out] at f0
  have T := U4.out.rb (Rb.drew w4)
  obtain ⟨v4, y4, ra, re⟩ := append_parts T.aa T.ba.rp.sl (by have := HS.out; simp; omega)
  try dsimp only at ra re
  rw [H2.out, G2.out] at ra
  have hb2 := T.aa.blk.same (re.fr.block _ T.aa.blk.lt T.aa.pb)
  try dsimp only at hb2
  have z0 : y4.cell? ⟨A.b, 2, none⟩ = some (A.pv) := hb2.cell 2
  have zf : y4.frozen? ⟨A.b, 2, none⟩ = false := hb2.frozen 2
  rw [H2.out] at z0
  have HB2 := Lib.hid hb2
  have HRE := Lib.hid re
  have HT := Lib.hid T
  obtain ⟨ao4, cap4, hk3, _, _⟩ := re.row.form
  generalize (List.map _ _).length = m4 at hk3
  subst hk3
  clear hb2 re T
  go_wp2_with fail
  go_cut [4] from 64 to 75 (fun c wx => c = ptrv A.b ∧ Blk wx A.b 160 [.slice ao2 m2 cap2, .slice ao3 m3 cap3, .slice ao4 m4 cap4] ∧ Wrote A.b y4 wx)
  case first =>
    go_region_law_o (refine step_run_append rfl rfl (by simp [Act.eval]) (by simp [Act.eval]) (ra _) ?_)
    all_goals
      go_wp2_with fail
      go_meet
      exact ⟨rfl, blk_setCell HB2.out (by simp) _⟩
  case rest =>
  obtain ⟨rfl, hb3, hw3⟩ := hcut
  have U5 := Lib.hid (HT.out.stepA (Nx.parts HT.out.aa HRE.out hb3 hw3))
  clear hb3 hw3 HT HRE HB2 ra U4 z0 zf e0 f0
  generalize wc = w5 at *

  -- keys of the parent
  have e0 := U5.out.na.c0
  try dsimp only at e0
  rw [HK.out] at e0
  have J := delete_any_K w5 N.kv at_ (at_ + 1) (N.ks.map i64) U5.out.na.rk (by omega) (by have := HS.out; rw [List.length_map]; omega) i64_one
  rw [← List.map_take, ← List.map_drop, ← List.map_append, HK.out] at J
  rw [show ((at_ + 1 : Nat) : Int) = (at_ : Int) + 1 by omega] at J
  have HJ := Lib.hid J
  clear J
  go_wp2_with (go_at_call 148; refine HJ.out.mono ?_)
  first | (rintro e x5 v5 rfl re -) | (rintro e x5 ⟨v5, rfl, re, -⟩)
  have hb2 := U5.out.na.blk.same (re.fr.block _ U5.out.na.blk.lt (fun e => U5.out.na.kb (by (try dsimp only); rw [HK.out]; exact e)))
  try dsimp only at hb2
  have HB2 := Lib.hid hb2
  have HRE := Lib.hid re
  have o1 := Lib.hid re.row.one
  clear hb2 re e0 HJ
  go_wp2_with (refine wpList_store rfl 47 _ _ rfl N.b 0 160 _ [v5] _ rfl rfl HB2.out o1.out.2 size36 (by simp) (one1 o1.out.1) ?_)
  intro w6 hb3 hw3
  have U6 := Lib.hid (U5.out.stepN (Nx.keys (ks' := N.ks.take at_ ++ N.ks.drop (at_ + 1)) U5.out.na (by have q := HRE.out; (try dsimp only); rw [HK.out]; simpa only [List.map_append, List.map_take, List.map_drop] using q) hb3 hw3))
  clear hb3 hw3 HRE HB2 o1 U5

  -- parts of the parent
  have e0 := U6.out.na.c2
  try dsimp only at e0
  rw [HP.out] at e0
  have J := delete_any_Q w6 N.pv (at_ + 1) (at_ + 2) (N.ps.map ptrv) U6.out.na.rp (by omega) (by have := HS.out; rw [List.length_map]; omega) ptr_one
  rw [← List.map_take, ← List.map_drop, ← List.map_append, HP.out] at J
  rw [show ((at_ + 1 : Nat) : Int) = (at_ : Int) + 1 by omega, show ((at_ + 2 : Nat) : Int) = (at_ : Int) + 2 by omega] at J
  have HJ := Lib.hid J
  clear J
  go_wp2_with (go_at_call 170; refine HJ.out.mono ?_)
  first | (rintro e x6 v6 rfl re -) | (rintro e x6 ⟨v6, rfl, re, -⟩)
  have hb2 := U6.out.na.blk.same (re.fr.block _ U6.out.na.blk.lt (fun e => U6.out.na.pb (by (try dsimp only); rw [HP.out]; exact e)))
  try dsimp only at hb2
  have HB2 := Lib.hid hb2
  have HRE := Lib.hid re
  have o1 := Lib.hid re.row.one
  clear hb2 re e0 HJ
  go_wp2_with (refine wpList_store rfl 158 _ _ rfl N.b 2 160 _ [v6] _ rfl rfl HB2.out o1.out.2 size68 (by simp) (one1 o1.out.1) ?_)
  intro w7 hb3 hw3
  have U7 := Lib.hid (U6.out.stepN (Nx.parts (ps' := N.ps.take (at_ + 1) ++ N.ps.drop (at_ + 2)) U6.out.na (by have q := HRE.out; (try dsimp only); rw [HP.out]; simpa only [List.map_append, List.map_take, List.map_drop] using q) hb3 hw3))
  clear hb3 hw3 HRE HB2 o1 U6

  go_wp2
  go_end0
  have q := U7.out
  simp only [List.append_assoc, List.singleton_append] at q
  exact ⟨⟨_, rfl⟩, _, _, _, _, _, q⟩
end Go.Proofs.YtjfpeklfgnajoaaGreat.L6

namespace Go.Proofs.YtjfpeklfgnajoaaGreat.L6
open Go.ChangeShapes Go.WideShapes Go.ChangeAt Go.RowKit By Reg
set_option linter.unusedVariables false

theorem Nx.off {w w' : World} {N N' X : Nd} (x : Nx w N w' N') (hX : NodeAt w X) (o : ∀ k, N.has k → ¬ X.has k) : NodeAt w' X ∧ ∀ k, N'.has k → ¬ X.has k := by
  refine ⟨hX.fr x.fr (fun k hk hk' => o k hk' hk), fun k hk hk' => ?_⟩
  rcases x.has k hk with h | h
  · exact o k h hk'
  · have := hX.lt k hk'; omega

structure Spl (w : World) (N C : Nd) (w' : World) (N' C' M : Nd) : Prop where
  na : NodeAt w' N'
  ca : NodeAt w' C'
  ma : NodeAt w' M
  nb : N'.b = N.b
  cb : C'.b = C.b
  nh : ∀ k, N'.has k → N.has k ∨ w.heap.size ≤ k
  ch : ∀ k, C'.has k → C.has k
  mh : ∀ k, M.has k → w.heap.size ≤ k
  oC : ∀ k, N'.has k → ¬ C'.has k
  oM : ∀ k, N'.has k → ¬ M.has k
  fr : Fr (fun k => N.has k ∨ C.has k) w w'

set_option maxHeartbeats 2000000 in
set_option maxRecDepth 100000 in
theorem split_node (w : World) (N C : Nd) (at_ : Nat) (R : Nd → Nd → Int → Prop) (hn : NodeAt w N) (hc : NodeAt w C) (o : ∀ k, N.has k → ¬ C.has k)
    (hat : N.ps[at_]? = some C.b) (hl : N.ps.length = N.ks.length + 1) (hb : N.ps.length ≤ 100)
    (hh : Calls Tryz.prog 137 #[ptrv C.b] w fun e w' => ∃ C' M key, e = .returned (.tuple #[i64 key, ptrv M.b]) ∧ Two w C w' C' M ∧ R C' M key) :
    Calls Tryz.prog 112 #[ptrv N.b, i64 at_] w fun e w' => (∃ v, e = .returned v) ∧ ∃ kv pv C' M key, Spl w N C w' { N with kv := kv, pv := pv, ks := N.ks.take at_ ++ key :: N.ks.drop at_, ps := N.ps.take (at_ + 1) ++ M.b :: N.ps.drop (at_ + 1) } C' M ∧ R C' M key := by
  have hjl := (List.getElem?_eq_some_iff.1 hat)
  obtain ⟨g, cap, h1, h2, h3, h4⟩ := hn.rp.at_ (j := at_) (by rw [List.length_map]; exact hjl.1)
  rw [List.length_map] at h1 h2
  rw [List.getElem_map, hjl.2] at h4
  have c2 := hn.c2
  rw [h1] at c2
  have HP := Lib.hid h1
  have HN := Lib.hid hn
  have HC := Lib.hid hc
  have HO := Lib.hid o
  have HH := Lib.hid hh
  obtain ⟨ao2, cap2, hk, _, _⟩ := hn.kform
  have HK := Lib.hid hk
  obtain ⟨n, hnn⟩ : ∃ n, n = N.ps.length := ⟨_, rfl⟩
  have hlt := hjl.1
  rw [← hnn] at c2 h2 hlt HP
  have hw1 : IntKind.i64.wrap ((at_ : Int) + 1) = (at_ : Int) + 1 := by rw [IntKind.wrap_i64]; omega
  have I1 : ∀ w1 (y : Int), Row w1 2 N.kv (N.ks.map i64) → Hid (Calls Tryz.prog 138 #[N.kv, i64 at_, .slice (some ⟨w1.heap.size, 0, none⟩) 1 1] (w1.alloc (.cells #[i64 y] 2)) fun e w' => ∃ kv', e = .returned kv' ∧ Re (w1.alloc (.cells #[i64 y] 2)) 2 N.kv ((N.ks.take at_ ++ y :: N.ks.drop at_).map i64) kv' w') := fun w1 y hr => by
    have hn := hr.rb (w' := w1.alloc (.cells #[i64 y] 2)) ((Below.refl _ w1).alloc (Nat.le_refl _) _)
    have hb : Blk (w1.alloc (.cells #[i64 y] 2)) w1.heap.size 2 [i64 y] := Blk.new w1 _ [i64 y]
    have := insert_any_K _ N.kv at_ w1.heap.size (N.ks.map i64) (i64 y) hn hb (fun e => by have := hr.lt _ e; omega) (by rw [List.length_map]; omega) (by rw [List.length_map]; omega) i64_one rfl
    simpa [List.map_append, List.map_take, List.map_drop] using Lib.hid this
  have I2 : ∀ w1 (y : Nat), Row w1 91 N.pv (N.ps.map ptrv) → Hid (Calls Tryz.prog 139 #[N.pv, i64 ((at_ : Int) + 1), .slice (some ⟨w1.heap.size, 0, none⟩) 1 1] (w1.alloc (.cells #[ptrv y] 91)) fun e w' => ∃ pv', e = .returned pv' ∧ Re (w1.alloc (.cells #[ptrv y] 91)) 91 N.pv ((N.ps.take (at_ + 1) ++ y :: N.ps.drop (at_ + 1)).map ptrv) pv' w') := fun w1 y hr => by
    have hn := hr.rb (w' := w1.alloc (.cells #[ptrv y] 91)) ((Below.refl _ w1).alloc (Nat.le_refl _) _)
    have hb : Blk (w1.alloc (.cells #[ptrv y] 91)) w1.heap.size 91 [ptrv y] := Blk.new w1 _ [ptrv y]
    have := insert_any_Q _ N.pv (at_ + 1) w1.heap.size (N.ps.map ptrv) (ptrv y) hn hb (fun e => by have := hr.lt _ e; omega) (by rw [List.length_map]; omega) (by rw [List.length_map]; omega) ptr_one rfl
    simpa [List.map_append, List.map_take, List.map_drop] using Lib.hid this
  have hab : at_ ≤ 100 := by omega
  clear h1 h3 hn hc o hh hk hnn hjl hat hl hb
  go_enter Tryz.func112, Tryz.ntmps112
  go_wp2_with (go_at_call 137; refine HH.out.mono ?_)
  first | (rintro e w1 C' M key rfl t r) | (rintro e w1 ⟨C', M, key, rfl, t, r⟩)
  have n1 : NodeAt w1 N := HN.out.fr t.fr (fun k hk hk' => HO.out k hk hk')
  have oC : ∀ k, N.has k → ¬ C'.has k := fun k hk hk' => HO.out k hk (t.nh k hk')
  have oM : ∀ k, N.has k → ¬ M.has k := fun k hk hk' => by have a := t.mh k hk'; have b := HN.out.lt k hk; omega
  have d0 := n1.c0
  have d2 := n1.c2
  have J1 := I1 w1 key n1.rk
  rw [HK.out] at d0 J1
  have T := Lib.hid t
  have RR := Lib.hid r
  have N1 := Lib.hid n1
  have OC := Lib.hid oC
  have OM := Lib.hid oM
  clear t r n1 oC oM I1 c2 h4 d2
  go_wp2_with (go_at_call 138; refine J1.out.mono ?_)
  first | (rintro e w2 kv' rfl hr1) | (rintro e w2 ⟨kv', rfl, hr1⟩)
  have A1 : Rb w1 (w1.alloc (.cells #[i64 key] 2)) := (Below.refl _ w1).alloc (Nat.le_refl _) _
  have hn1 := N1.out.rb A1
  have hb2 : Blk w2 N.b 160 [N.kv, N.vv, N.pv] := hn1.blk.same (hr1.fr.block _ hn1.blk.lt (fun e => hn1.kb (by rw [HK.out]; exact e)))
  have HB2 := Lib.hid hb2
  have ho := Lib.hid hr1.row.one
  have R1 := Lib.hid hr1
  have HN1 := Lib.hid hn1
  clear hr1 hb2 hn1 J1 d0 A1
  go_wp2_with (refine wpList_store rfl 47 _ _ rfl N.b 0 160 _ [kv'] _ rfl rfl HB2.out ho.out.2 size36 (by simp) (one1 ho.out.1) ?_)
  intro w3 hb3 hw3
  have A1 : Rb w1 (w1.alloc (.cells #[i64 key] 2)) := (Below.refl _ w1).alloc (Nat.le_refl _) _
  have X1 : Nx w1 N w3 { N with kv := kv', ks := N.ks.take at_ ++ key :: N.ks.drop at_ } := Nx.rb A1 (Nx.keys HN1.out (by rw [HK.out]; exact R1.out) hb3 hw3)
  have J2 := I2 w3 M.b X1.at_.rp
  have d3 := X1.at_.c2
  dsimp only at d3
  rw [HP.out] at d3 J2
  have HX1 := Lib.hid X1
  clear hb3 hw3 X1 A1 I2
  go_wp2_with (go_at_call 139; refine J2.out.mono ?_)
  first | (rintro e w4 pv' rfl hr2) | (rintro e w4 ⟨pv', rfl, hr2⟩)
  have A3 : Rb w3 (w3.alloc (.cells #[ptrv M.b] 91)) := (Below.refl _ w3).alloc (Nat.le_refl _) _
  have hn3 := HX1.out.at_.rb A3
  have hb4 : Blk w4 N.b 160 [kv', N.vv, N.pv] := hn3.blk.same (hr2.fr.block _ hn3.blk.lt (fun e => hn3.pb (by dsimp only; rw [HP.out]; exact e)))
  have HB4 := Lib.hid hb4
  have ho2 := Lib.hid hr2.row.one
  have R2 := Lib.hid hr2
  have HN3 := Lib.hid hn3
  clear hr2 hb4 hn3 J2 d3 A3
  go_wp2_with (refine wpList_store rfl 158 _ _ rfl N.b 2 160 _ [pv'] _ rfl rfl HB4.out ho2.out.2 size68 (by simp) (one1 ho2.out.1) ?_)
  intro w5 hb5 hw5
  have A3 : Rb w3 (w3.alloc (.cells #[ptrv M.b] 91)) := (Below.refl _ w3).alloc (Nat.le_refl _) _
  have X2 := Nx.rb A3 (Nx.parts HN3.out (ps' := N.ps.take (at_ + 1) ++ M.b :: N.ps.drop (at_ + 1)) (by dsimp only; rw [HP.out]; exact R2.out) hb5 hw5)
  have X := HX1.out.trans X2
  have HX := Lib.hid X
  clear hb5 hw5 X2 X A3
  go_wp2
  go_end0
  have x := HX.out
  have t := T.out
  obtain ⟨cN, cO⟩ := x.off t.na OC.out
  obtain ⟨mN, mO⟩ := x.off t.ma OM.out
  refine ⟨⟨_, rfl⟩, _, _, C', M, key, ⟨x.at_, cN, mN, x.b, t.nb, fun k hk => ?_, t.nh, t.mh, cO, mO, ?_⟩, RR.out⟩
  · rcases x.has k hk with h | h
    · exact .inl h
    · have := t.fr.size; exact .inr (by omega)
  · exact (t.fr.mono (fun k hk _ => .inr hk)).trans x.fr (fun k hk => .inl (.inl hk))
end Go.Proofs.YtjfpeklfgnajoaaGreat.L6
