/-
  Layer 5: slices.BinarySearch of int64, and what it calls.
-/
import Derived.Test.YtjdlicphmflnkaaT1
import Derived.Deep.LoopGhost
import Derived.Deep.Draws
import Derived.Lib.Walk
namespace Go.Proofs.Ytjdlicphmflnkaa.L5
open Go.ChangeShapes Go.WideShapes Go.ChangeAt Go.RowKit By Reg
set_option linter.unusedVariables false

/-- p is where x is in ks, or would be -/
structure Pos (x : Int) (ks : List Int) (p : Nat) : Prop where
  le : p ≤ ks.length
  lo : ∀ j, j < p → ks.getD j 0 < x
  hi : ∀ j, p ≤ j → j < ks.length → x ≤ ks.getD j 0

def found (x : Int) (ks : List Int) (p : Nat) : Bool := decide (ks[p]? = some x)

theorem isnan1 (x : Int) (w : World) : Calls Try.prog 65 #[i64 x] w fun e w' => e = .returned (.bool false) ∧ w = w' := by
  go_enter Try.func65, Try.ntmps65
  go_wp2
  go_ret
  exact ⟨by simp, rfl⟩
theorem isnan2 (x : Int) (w : World) : Calls Try.prog 53 #[i64 x] w fun e w' => e = .returned (.bool false) ∧ w = w' := by
  go_enter Try.func53, Try.ntmps53
  go_wp2
  go_ret
  exact ⟨by simp, rfl⟩
theorem less_any (x y : Int) (w : World) : Calls Try.prog 52 #[i64 x, i64 y] w fun e w' => e = .returned (.bool (decide (x < y))) ∧ w = w' := by
  go_enter Try.func52, Try.ntmps52
  go_wp2_with (go_at_call 65; refine (isnan1 _ _).mono ?_; rintro e w' ⟨rfl, rfl⟩)
  go_ret
  exact ⟨rfl, rfl⟩

set_option maxHeartbeats 4000000 in
set_option maxRecDepth 1000000 in
theorem search_any (w : World) (v : Value) (ks : List Int) (x : Int) (h : Row w 2 v (ks.map i64)) (hbig : ks.length ≤ 1000000) (hs : ks.Pairwise (· < ·)) :
    Calls Try.prog 41 #[v, i64 x] w fun e w' => ∃ p : Nat, e = .returned (.tuple #[i64 p, .bool (found x ks p)]) ∧ Pos x ks p ∧ Rb w w' := by
  have S : Aside (∀ a b, a ≤ b → b < ks.length → ks.getD a 0 ≤ ks.getD b 0) := fun a b hab hb => by
    rcases Nat.eq_or_lt_of_le hab with rfl | hl
    · exact Int.le_refl _
    · have := List.pairwise_iff_getElem.1 hs a b (by omega) hb hl
      simp only [List.getD_eq_getElem?_getD, List.getElem?_eq_getElem hb, List.getElem?_eq_getElem (show a < ks.length by omega), Option.getD_some]
      omega
  obtain ⟨n, hn⟩ : ∃ n, n = ks.length := ⟨_, rfl⟩
  obtain ⟨ao, cap, rfl, hc⟩ : ∃ ao cap, v = .slice ao n cap ∧ Hid (n = 0 ∨ ∃ g, ao = some ⟨g, 0, none⟩ ∧ n ≤ cap ∧ ∀ j, j < n → w.cell? ⟨g, j, none⟩ = some (i64 (ks.getD j 0))) := by
    rcases h.cases' with ⟨rfl, hx⟩ | ⟨g, rest, rfl, h2, h3⟩
    · have : ks = [] := by simpa using hx
      subst this
      exact ⟨none, 0, by rw [hn]; rfl, .inl (by rw [hn]; rfl)⟩
    · refine ⟨_, _, by rw [hn, ← List.length_map (f := i64)], .inr ⟨g, rfl, by rw [hn, List.length_map]; omega, fun j hj => ?_⟩⟩
      rw [h2.cell, List.getElem?_append_left (by rw [List.length_map]; omega), List.getElem?_map, List.getD_eq_getElem?_getD, List.getElem?_eq_getElem (by omega)]
      rfl
  rw [← hn] at hbig S
  have HN := Lib.hid hn
  clear h hs hn
  go_enter Try.func41, Try.ntmps41
  go_wp2
  go_loopg [7, 8] n (fun g s7 s8 wr => ∃ lo hi q : Nat, s7 = .int .i64 lo ∧ s8 = .int .i64 hi ∧ lo ≤ hi ∧ hi ≤ n ∧ hi - lo ≤ g ∧ wr = w.drewN q ∧ (∀ t, t < lo → ks.getD t 0 < x) ∧ (∀ t, hi ≤ t → t < n → x ≤ ks.getD t 0))
  case atStart => exact ⟨0, n, 0, rfl, rfl, Nat.zero_le _, Nat.le_refl _, by omega, rfl, fun t ht => absurd ht (Nat.not_lt_zero _), fun t h1 h2 => by omega⟩
  case round =>
    obtain ⟨lo, hi, q, rfl, rfl, hlh, hin, hg, rfl, h1, h2⟩ := hrel
    have I : Aside ((∀ t, t < lo → ks.getD t 0 < x) ∧ (∀ t, hi ≤ t → t < n → x ≤ ks.getD t 0)) := ⟨h1, h2⟩
    clear h1 h2
    by_cases hlt : lo < hi
    · obtain ⟨g, rfl, hnc, hcc⟩ := hc.out.resolve_left (by omega)
      have cm : w.cell? ⟨g, (lo + hi) / 2, none⟩ = some (.int .i64 (ks.getD ((lo + hi) / 2) 0)) := hcc _ (by omega)
      clear hcc
      generalize hy : ks.getD ((lo + hi) / 2) 0 = y at cm
      have Y : Aside (ks.getD ((lo + hi) / 2) 0 = y) := hy
      clear hy
      by_cases hyx : y < x
      · go_wp2_with (go_at_call 52; refine (less_any _ _ _).mono ?_; rintro e w' ⟨rfl, rfl⟩)
        go_roundg (hi - ((lo + hi) / 2 + 1))
        case measure => omega
        case rel =>
          refine ⟨(lo + hi) / 2 + 1, hi, _, by rw [show ((lo : Int) + (hi : Int)) / 2 + 1 = (((lo + hi) / 2 + 1 : Nat) : Int) by omega], rfl, by omega, hin, Nat.le_refl _, rfl, fun t ht => ?_, I.out.2⟩
          have := S.out t ((lo + hi) / 2) (by omega) (by omega)
          rw [Y.out] at this
          omega
      · go_wp2_with (go_at_call 52; refine (less_any _ _ _).mono ?_; rintro e w' ⟨rfl, rfl⟩)
        go_roundg ((lo + hi) / 2 - lo)
        case measure => omega
        case rel =>
          refine ⟨lo, (lo + hi) / 2, _, rfl, by rw [show ((lo : Int) + (hi : Int)) / 2 = (((lo + hi) / 2 : Nat) : Int) by omega], by omega, by omega, Nat.le_refl _, rfl, I.out.1, fun t ht htn => ?_⟩
          have := S.out ((lo + hi) / 2) t ht htn
          rw [Y.out] at this
          omega
    · have : hi = lo := by omega
      subst this
      have hpos : Pos x ks hi := ⟨by rw [← HN.out]; exact hin, I.out.1, fun j h1 h2 => I.out.2 j h1 (by rw [HN.out]; exact h2)⟩
      have PO := Lib.hid hpos
      clear hpos
      have hrb : Rb w (w.drewN q) := ⟨rfl, rfl, rfl, Nat.le_refl _, fun _ _ => rfl⟩
      have RBB := Lib.hid hrb
      clear hrb
      by_cases hn : hi < n
      · obtain ⟨g, rfl, hnc, hcc⟩ := hc.out.resolve_left (by omega)
        have cl : w.cell? ⟨g, hi, none⟩ = some (.int .i64 (ks.getD hi 0)) := hcc _ (by omega)
        clear hcc
        have F : Aside (ks[hi]? = some (ks.getD hi 0)) := by
          rw [List.getD_eq_getElem?_getD, List.getElem?_eq_getElem (by rw [← HN.out]; exact hn)]; rfl
        generalize ks.getD hi 0 = y at cl F
        by_cases hyx : y = x
        · go_wp2_with (go_at_call 53; refine (isnan2 _ _).mono ?_; rintro e w' ⟨rfl, rfl⟩)
          go_ret2
          refine ⟨hi, ?_, PO.out, ?_⟩
          · rw [show found x ks hi = true by unfold found; rw [F.out, hyx]; simp]
            first | rfl | simp [*]
          · exact ⟨rfl, rfl, rfl, Nat.le_refl _, fun _ _ => rfl⟩
        · go_wp2_with (go_at_call 53; refine (isnan2 _ _).mono ?_; rintro e w' ⟨rfl, rfl⟩)
          go_ret2
          refine ⟨hi, ?_, PO.out, ?_⟩
          · rw [show found x ks hi = false by unfold found; rw [F.out]; simp [hyx]]
            first | rfl | simp [*]
          · exact ⟨rfl, rfl, rfl, Nat.le_refl _, fun _ _ => rfl⟩
      · go_wp2_with (go_at_call 53; refine (isnan2 _ _).mono ?_; rintro e w' ⟨rfl, rfl⟩)
        go_ret2
        refine ⟨hi, ?_, PO.out, ?_⟩
        · rw [show found x ks hi = false by unfold found; rw [List.getElem?_eq_none (by rw [← HN.out]; omega)]; simp]
          first | rfl | simp [*]
        · exact ⟨rfl, rfl, rfl, Nat.le_refl _, fun _ _ => rfl⟩
theorem Pos.unique {x : Int} {ks : List Int} {p q : Nat} (h : Pos x ks p) (k : Pos x ks q) : p = q := by
  rcases Nat.lt_trichotomy p q with hl | rfl | hl
  · have a := k.lo p hl
    have b := h.hi p (Nat.le_refl _) (by have := k.le; omega)
    omega
  · rfl
  · have a := h.lo q hl
    have b := k.hi q (Nat.le_refl _) (by have := h.le; omega)
    omega

theorem Pos.exists (x : Int) : ∀ ks : List Int, ks.Pairwise (· < ·) → ∃ p, Pos x ks p
  | [], _ => ⟨0, Nat.le_refl _, fun j hj => absurd hj (Nat.not_lt_zero _), fun j _ hj => absurd hj (Nat.not_lt_zero _)⟩
  | k :: ks, h => by
    rw [List.pairwise_cons] at h
    by_cases hk : k < x
    · obtain ⟨p, hp⟩ := Pos.exists x ks h.2
      refine ⟨p + 1, by have := hp.le; simp; omega, fun j hj => ?_, fun j h1 h2 => ?_⟩
      · cases j with
        | zero => simpa using hk
        | succ j => simpa using hp.lo j (by omega)
      · cases j with
        | zero => omega
        | succ j => simpa using hp.hi j (by omega) (by simpa using h2)
    · refine ⟨0, Nat.zero_le _, fun j hj => absurd hj (Nat.not_lt_zero _), fun j _ h2 => ?_⟩
      cases j with
      | zero => simpa using Int.not_lt.1 hk
      | succ j =>
        have hj : j < ks.length := by simpa using h2
        have := h.1 ks[j] (List.getElem_mem hj)
        rw [show (k :: ks).getD (j + 1) 0 = ks[j] by simp [List.getD_eq_getElem?_getD, hj]]
        omega

theorem search_at (w : World) (v : Value) (ks : List Int) (x : Int) (p : Nat) (h : Row w 2 v (ks.map i64)) (hbig : ks.length ≤ 1000000) (hs : ks.Pairwise (· < ·)) (hp : Pos x ks p) :
    Calls Try.prog 41 #[v, i64 x] w fun e w' => e = .returned (.tuple #[i64 p, .bool (found x ks p)]) ∧ Rb w w' := by
  refine (search_any w v ks x h hbig hs).mono ?_
  rintro e w' ⟨q, rfl, h1, h2⟩
  obtain rfl := h1.unique hp
  exact ⟨rfl, h2⟩

end Go.Proofs.Ytjdlicphmflnkaa.L5
