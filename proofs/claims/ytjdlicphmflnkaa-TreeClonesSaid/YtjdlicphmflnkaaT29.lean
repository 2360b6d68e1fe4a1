/-
  Layer 5: the document's list: At, Put.
-/
import Derived.Test.YtjdlicphmflnkaaT15
import Derived.Test.YtjdlicphmflnkaaT3a
import Derived.Test.YtjdlicphmflnkaaT23
namespace Go.Proofs.Ytjdlicphmflnkaa.L5
open Go.ChangeShapes Go.WideShapes Go.ChangeAt Go.RowKit By Reg
set_option linter.unusedVariables false

def cells2 : List Th → List Value
  | [] => []
  | t :: L => i64 t.1 :: i64 t.2 :: cells2 L
theorem cells2_len : ∀ L : List Th, (cells2 L).length = L.length * 2
  | [] => rfl
  | t :: L => by rw [cells2, List.length_cons, List.length_cons, cells2_len L, List.length_cons]; omega
theorem cells2_append : ∀ (L M : List Th), cells2 (L ++ M) = cells2 L ++ cells2 M
  | [], M => rfl
  | t :: L, M => by rw [List.cons_append, cells2, cells2, cells2_append L M]; rfl
theorem cells2_take : ∀ (L : List Th) (i : Nat), cells2 (L.take i) = (cells2 L).take (i * 2)
  | [], i => by simp [cells2]
  | t :: L, 0 => by simp [cells2]
  | t :: L, i + 1 => by rw [List.take_succ_cons, cells2, cells2, cells2_take L i, show (i + 1) * 2 = i * 2 + 1 + 1 by omega]; rfl
theorem cells2_drop : ∀ (L : List Th) (i : Nat), cells2 (L.drop i) = (cells2 L).drop (i * 2)
  | [], i => by simp [cells2]
  | t :: L, 0 => by simp [cells2]
  | t :: L, i + 1 => by rw [List.drop_succ_cons, cells2, cells2_drop L i, show (i + 1) * 2 = i * 2 + 1 + 1 by omega]; rfl
theorem cells2_key : ∀ (L : List Th) (j : Nat), j < L.length → (cells2 L)[j * 2]? = some (i64 (L.getD j (0, 0)).1) ∧ (cells2 L)[j * 2 + 1]? = some (i64 (L.getD j (0, 0)).2)
  | [], j, h => by simp at h
  | t :: L, 0, h => ⟨rfl, rfl⟩
  | t :: L, j + 1, h => by
    have := cells2_key L j (by simpa using h)
    rw [cells2, show (j + 1) * 2 = j * 2 + 1 + 1 by omega]
    exact this
theorem cells2_one : ∀ (L : List Th), ∀ u ∈ cells2 L, u.oneCell' = true
  | [], u, h => by cases h
  | t :: L, u, h => by
    rw [cells2] at h
    rcases List.mem_cons.1 h with rfl | h
    · rfl
    · rcases List.mem_cons.1 h with rfl | h
      · rfl
      · exact cells2_one L u h

/-- a row of pairs -/
def PRow (w : World) (v : Value) (L : List Th) : Prop := w.ownsRow 0 47 2 v L.length (cells2 L)
/-- a slice that reads as pairs -/
def Sl2 (w : World) (v : Value) (L : List Th) : Prop :=
  ∃ (ao : Option Addr) (cap : Nat), v = .slice ao L.length cap ∧ L.length ≤ cap ∧ cap ≤ maxLen ∧ (ao = none → cap = 0) ∧ ∀ ad, ao = some ad → ∀ j u, (cells2 L)[j]? = some u → w.cell? (ad.add j) = some u

theorem PRow.same {w w' : World} {v : Value} {L : List Th} (h : PRow w v L) (hb : ∀ k, v.ownBlock = some k → w'.heap[k]? = w.heap[k]?) : PRow w' v L := owns_same h hb
theorem PRow.lt {w : World} {v : Value} {L : List Th} (h : PRow w v L) : ∀ k, v.ownBlock = some k → k < w.heap.size := fun k hk => (World.ownsRow.lt h k hk).2
theorem PRow.rb {w w' : World} {v : Value} {L : List Th} (h : PRow w v L) (hr : Rb w w') : PRow w' v L := h.same fun k hk => hr.block k (h.lt k hk)
theorem PRow.cases' {w : World} {v : Value} {L : List Th} (h : PRow w v L) : (v = .slice none 0 0 ∧ L = []) ∨ ∃ g cap, v = .slice (some ⟨g, 0, none⟩) L.length cap ∧ L.length ≤ cap ∧ cap ≤ maxLen ∧ ∀ j u, (cells2 L)[j]? = some u → w.cell? ⟨g, j, none⟩ = some u := by
  have h0 := h
  obtain ⟨_, h⟩ := h
  rcases h with ⟨h1, h2⟩ | ⟨g, cap, cur, h1, h2, h3, h4, h5, h6, h7⟩
  · exact .inl ⟨h1, List.eq_nil_of_length_eq_zero h2⟩
  · refine .inr ⟨g, cap, h1, h4, h5, fun j u hu => ?_⟩
    have := World.ownsRow.cells h0 (g := g) (by rw [h1]; rfl) j u hu
    rwa [Addr.add_lit, Nat.zero_add] at this
theorem PRow.sl {w : World} {v : Value} {L : List Th} (h : PRow w v L) : Sl2 w v L := by
  rcases h.cases' with ⟨rfl, rfl⟩ | ⟨g, cap, rfl, h1, h2, h3⟩
  · exact ⟨none, 0, rfl, Nat.le_refl _, Nat.zero_le _, fun _ => rfl, fun _ h => by cases h⟩
  · exact ⟨_, cap, rfl, h1, h2, (fun h => by cases h), fun ad e j u hu => by cases e; rw [Addr.add_lit, Nat.zero_add]; exact h3 j u hu⟩
theorem PRow.nil (w : World) : PRow w (.slice none 0 0) [] := World.ownsRow_nil w 0 _ 2
theorem Sl2.below {w w' : World} {v : Value} {L : List Th} {B : Nat} (h : Sl2 w v L) (hb : Below B w w') (hB : ∀ k, v.ownBlock = some k → k < B) : Sl2 w' v L := by
  obtain ⟨ao, cap, rfl, h2, h3, h4, h5⟩ := h
  refine ⟨ao, cap, rfl, h2, h3, h4, fun ad ha j u hu => ?_⟩
  subst ha
  have hc := h5 ad rfl j u hu
  have hbk : (ad.add j).block = ad.block := by unfold Addr.add; split <;> rfl
  rw [Below.cell hb (by rw [hbk]; exact hB _ rfl)]
  exact hc

theorem info_P : (Try.prog.info? 47).map (fun i => (i.zero, i.size, i.bytes)) = some (some (.agg #[.int .i64 0, .int .i64 0]), 2, 16) := by kernel_rfl

/-- append to a row of pairs of the call's own -/
theorem append_pairs {w : World} {B : Nat} {v v2 : Value} {xs ys : List Th} (hr : w.ownsRow B 47 2 v xs.length (cells2 xs)) (hs : Sl2 w v2 ys) (hb : xs.length + ys.length ≤ 100000) (hB : B ≤ w.heap.size) :
    ∃ v' w', (∀ ty, (Builtin.append_ #[27, 27] ty #[v, v2]).run Try.prog w = .ok v' w') ∧ w'.ownsRow B 47 2 v' (xs ++ ys).length (cells2 (xs ++ ys)) ∧ Below B w w' := by
  have ht := Try.underlying27
  obtain ⟨i0, hi, hz, hsz, hby⟩ := info_parts info_P
  obtain ⟨ao, cap, rfl, e2, e3, e4, e5⟩ := hs
  cases ao with
  | none =>
    have hc := e4 rfl
    have h0 : ys = [] := List.eq_nil_of_length_eq_zero (by omega)
    subst h0
    subst hc
    refine ⟨v, w, fun ty => run_append_owned_none (P := Try.prog) (w := w) B _ ty _ i0 2 ht hi v _ _ hr, ?_, Below.refl _ _⟩
    rw [List.append_nil]
    exact hr
  | some ad =>
    obtain ⟨v', w', hrun, h2, h3, h4⟩ := run_append_own (P := Try.prog) w B 27 27 47 i0 _ 2 16 ht hi hz hsz hby rfl (by decide) v xs.length (cells2 xs) hr ad ys.length cap (cells2 ys) (cells2_len ys) (e5 ad rfl) (cells2_one ys) (by unfold maxLen; omega) (by omega) hB
    refine ⟨v', w', fun ty => hrun, ?_, (Below.refl _ w).grown h3 hB (fun k hk => (hr.lt k hk).1)⟩
    rw [cells2_append, List.length_append]
    exact h2

/-- where a key is in a list, or would be -/
structure PosL (x : Int) (L : List Th) (p : Nat) : Prop where
  le : p ≤ L.length
  lo : ∀ j, j < p → (L.getD j (0, 0)).1 < x
  hi : p < L.length → x ≤ (L.getD p (0, 0)).1
def foundL (x : Int) (L : List Th) (p : Nat) : Bool := decide (p < L.length ∧ (L.getD p (0, 0)).1 = x)

theorem PosL.exists (x : Int) : ∀ L : List Th, ∃ p, PosL x L p
  | [] => ⟨0, Nat.le_refl _, fun j hj => absurd hj (Nat.not_lt_zero _), fun h => absurd h (Nat.not_lt_zero _)⟩
  | t :: L => by
    by_cases h : t.1 < x
    · obtain ⟨p, hp⟩ := PosL.exists x L
      refine ⟨p + 1, by have := hp.le; simp; omega, fun j hj => ?_, fun hl => ?_⟩
      · cases j with
        | zero => exact h
        | succ j => exact hp.lo j (by omega)
      · exact hp.hi (by simpa using hl)
    · exact ⟨0, Nat.zero_le _, fun j hj => absurd hj (Nat.not_lt_zero _), fun _ => by show x ≤ t.1; omega⟩

theorem putL_at (x y : Int) : ∀ (L : List Th) (p : Nat), PosL x L p → putL x y L = L.take p ++ (x, y) :: L.drop (if foundL x L p then p + 1 else p)
  | [], p, h => by
    have h0 : p = 0 := by have := h.le; simp at this; exact this
    subst h0
    simp [putL, foundL]
  | t :: L, 0, h => by
    have h1 : x ≤ t.1 := h.hi (by simp)
    rw [putL, if_neg (by omega)]
    by_cases he : t.1 = x
    · rw [if_pos he]
      have : foundL x (t :: L) 0 = true := by unfold foundL; simp [he]
      rw [this]
      rfl
    · rw [if_neg he]
      have : foundL x (t :: L) 0 = false := by unfold foundL; simp [he]
      rw [this]
      rfl
  | t :: L, p + 1, h => by
    have h1 : t.1 < x := h.lo 0 (by omega)
    have h2 : PosL x L p := ⟨by have := h.le; simp at this; omega, fun j hj => h.lo (j + 1) (by omega), fun hl => h.hi (by simpa using hl)⟩
    have e : foundL x (t :: L) (p + 1) = foundL x L p := by unfold foundL; simp
    rw [putL, if_pos h1, putL_at x y L p h2, e]
    cases foundL x L p <;> rfl
theorem getL_at (x : Int) : ∀ (L : List Th) (p : Nat), PosL x L p → getL x L = if foundL x L p then some (L.getD p (0, 0)).2 else getL x (L.drop p)
  | [], p, h => by
    have h0 : p = 0 := by have := h.le; simp at this; exact this
    subst h0
    simp [getL, foundL]
  | t :: L, 0, h => by
    by_cases he : t.1 = x
    · have : foundL x (t :: L) 0 = true := by unfold foundL; simp [he]
      rw [this, getL, if_pos he]
      rfl
    · have : foundL x (t :: L) 0 = false := by unfold foundL; simp [he]
      rw [this]
      rfl
  | t :: L, p + 1, h => by
    have h1 : t.1 < x := h.lo 0 (by omega)
    have h2 : PosL x L p := ⟨by have := h.le; simp at this; omega, fun j hj => h.lo (j + 1) (by omega), fun hl => h.hi (by simpa using hl)⟩
    have e : foundL x (t :: L) (p + 1) = foundL x L p := by unfold foundL; simp
    rw [getL, if_neg (by omega), getL_at x L p h2, e]
    rfl

set_option maxHeartbeats 2000000 in
set_option maxRecDepth 100000 in
theorem refat (w : World) (v : Value) (L : List Th) (x : Int) (p : Nat) (h : PRow w v L) (hL : L.length ≤ 100000) (hp : PosL x L p) :
    Calls Try.prog 23 #[v, i64 x] w fun e w' => e = .returned (.tuple #[i64 p, .bool (foundL x L p)]) ∧ Dn w w' := by
  obtain ⟨n, hn⟩ : ∃ n, n = L.length := ⟨_, rfl⟩
  obtain ⟨ao, cap, hv, _⟩ := h.sl
  have CELL : Hid (∀ j, j < n → ∃ g, ao = some ⟨g, 0, none⟩ ∧ n ≤ cap ∧ w.cell? ⟨g, j * 2, none⟩ = some (i64 (L.getD j (0, 0)).1)) := fun j hj => by
    rcases h.cases' with ⟨_, hx⟩ | ⟨g, cap', h1, h2, h3, h4⟩
    · subst hx; simp at hn; omega
    · rw [hv] at h1
      simp only [Value.slice.injEq] at h1
      obtain ⟨rfl, -, rfl⟩ := h1
      exact ⟨g, rfl, by omega, h4 _ _ (cells2_key L j (by omega)).1⟩
  rw [← hn] at hv
  subst hv
  have HP := Lib.hid hp
  have HN := Lib.hid hn
  have hpn : p ≤ n := by rw [hn]; exact hp.le
  rw [← hn] at hL
  clear h hp hn
  go_enter Try.func23, Try.ntmps23
  go_wp2
  go_loopg [6] n (fun g s6 wr => ∃ i : Nat, s6 = .int .i64 i ∧ i ≤ p ∧ p - i ≤ g ∧ wr = w)
  case atStart => exact ⟨0, rfl, Nat.zero_le _, by omega, rfl⟩
  case round =>
    obtain ⟨i, rfl, h2, h3, rfl⟩ := hrel
    by_cases hin : i < n
    · obtain ⟨g1, rfl, hc1, hc2⟩ := CELL.out i hin
      by_cases hip : i < p
      · have hk : (L.getD i (0, 0)).1 < x := HP.out.lo i hip
        generalize (L.getD i (0, 0)).1 = kk at hc2 hk
        have HI := Lib.hid hip
        have hib : i ≤ 100000 := by omega
        clear h2
        go_wp2
        go_roundg (p - (i + 1))
        case measure => have := HI.out; omega
        case rel => exact ⟨i + 1, by rw [show ((i : Int) + 1) = ((i + 1 : Nat) : Int) by omega], HI.out, Nat.le_refl _, rfl⟩
      · have : i = p := by omega
        subst this
        have hk : x ≤ (L.getD i (0, 0)).1 := HP.out.hi (by rw [← HN.out]; exact hin)
        have hf : foundL x L i = decide ((L.getD i (0, 0)).1 = x) := by
          unfold foundL
          rw [← HN.out]
          simp [hin]
        generalize (L.getD i (0, 0)).1 = kk at hc2 hk hf
        have hkn : ¬ kk < x := by omega
        have HF := Lib.hid hf
        clear hf
        by_cases he : kk = x
        · subst he
          go_wp2
          go_quiet (fail)
          go_wp2
          go_ret2
          refine ⟨?_, _, rfl⟩
          rw [show foundL kk L i = true from HF.out.trans (by simp)]
          first | rfl | simp
        · have heb : (kk == x) = false := beq_eq_false_iff_ne.2 he
          have HE := Lib.hid he
          go_wp2
          go_quiet (fail)
          go_wp2
          go_ret2
          refine ⟨?_, _, rfl⟩
          rw [show foundL x L i = false from HF.out.trans (decide_eq_false HE.out)]
          first | rfl | simp
    · have : i = p := by omega
      subst this
      have hf : foundL x L i = false := by
        unfold foundL
        rw [← HN.out]
        simp [hin]
      have HF := Lib.hid hf
      clear hf
      go_wp2
      go_quiet (fail)
      go_wp2
      go_ret2
      refine ⟨?_, _, rfl⟩
      rw [HF.out]
      first | rfl | simp
end Go.Proofs.Ytjdlicphmflnkaa.L5
