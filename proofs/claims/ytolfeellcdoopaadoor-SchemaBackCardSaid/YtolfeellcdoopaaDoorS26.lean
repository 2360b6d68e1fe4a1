/-
  Layer 6: what is put is got: the mathematics.
-/
import Derived.Test.YtolfeellcdoopaaDoorS25
import Derived.Test.YtolfeellcdoopaaDoorS18
namespace Go.Proofs.YtolfeellcdoopaaDoor.L6
open Go.ChangeShapes Go.WideShapes Go.ChangeAt Go.RowKit Oct By Reg Val
set_option linter.unusedVariables false
set_option linter.unusedSimpArgs false

theorem unzig_zig (n : Int) : unzig (zig n) = n := by
  unfold zig unzig
  split <;> split <;> omega
theorem gu_at (xs ys zs : List UInt8) (n : Nat) (i : Int) (hn : n < 18446744073709551616) (h : ys = xs ++ (uintB n ++ zs)) (hi : i = xs.length) : gu ys i = some (n, sizeN n) := by
  subst h hi
  unfold gu
  rw [if_pos ⟨by omega, by rw [List.length_append]; omega⟩, Int.toNat_natCast, List.drop_left, getU_uintB n hn]
theorem gt_at (xs ys s zs : List UInt8) (i most : Int) (hs : s.length < 18446744073709551616) (hm : (s.length : Int) ≤ most) (h : ys = xs ++ (uintB s.length ++ (s ++ zs))) (hi : i = xs.length) : gt ys i most = some (s, sizeN s.length + s.length) := by
  have hg := gu_at xs ys (s ++ zs) s.length i hs h hi
  unfold gt
  rw [hg]
  simp only []
  have hul : (uintB s.length).length = sizeN s.length := rfl
  rw [if_pos ⟨hm, by subst h hi; simp only [List.length_append, hul]; omega⟩]
  subst h hi
  congr 2
  rw [Int.toNat_natCast, ← List.drop_drop, List.drop_left, ← hul, List.drop_left, List.take_left]
theorem right_n3 {n : Int} {l : List UInt8} (h : rightB 3 n l = true) : n = 0 ∧ l.length ≤ 32 := by
  unfold rightB rightTextB at h
  simp at h
  exact ⟨h.1, h.2.1⟩
theorem right_s {k n : Int} {l : List UInt8} (h : rightB k n l = true) (hk : k = 1 ∨ k = 2) : l = [] := by
  unfold rightB at h
  rcases hk with rfl | rfl
  · simpa using h
  · simp at h; exact h.1
theorem truth_2 {n : Int} {l : List UInt8} (h : rightB 2 n l = true) : n = 0 ∨ n = 1 := by
  unfold rightB at h
  simp at h
  omega
theorem bt_app (xs : List UInt8) (c : UInt8) (zs : List UInt8) : bt (xs ++ c :: zs) xs.length = c.toNat := by
  unfold bt
  rw [List.getD_eq_getElem?_getD, List.getElem?_append_right (Nat.le_refl _), Nat.sub_self]
  rfl
/-- what stands behind any bytes is got -/
theorem get_at {k n : Int} {l : List UInt8} (xs zs ys : List UInt8) (hy : ys = xs ++ (bytesV k n l ++ zs)) (h : rightB k n l = true) (h0 : -9223372036854775808 ≤ n) (h1 : n ≤ 9223372036854775807) : getV ys (xs.length : Int) = some (k, n, l, (bytesV k n l).length) := by
  rcases kinds_of h with rfl | rfl | rfl
  · have hl := right_s h (.inl rfl)
    subst hl
    have hy2 : ys = (xs ++ [1]) ++ (uintB (zig n) ++ zs) := by rw [hy, List.append_assoc]; rfl
    have hg := gu_at (xs ++ [1]) ys zs (zig n) ((xs.length : Int) + 1) (zig_lt h0 h1) hy2 (by simp)
    have hb : bt ys xs.length = 1 := by rw [hy]; exact bt_app xs 1 _
    have hlen : (bytesV 1 n []).length = sizeN (zig n) + 1 := rfl
    have hyl : xs.length < ys.length := by rw [hy, List.length_append, List.length_append, hlen]; omega
    unfold getV
    rw [if_pos ⟨by omega, by omega⟩, Int.toNat_natCast, hb, candV_1, hg]
    simp only [unzig_zig]
    rw [if_pos (show rightB ((1 : Nat) : Int) n [] = true from h), hlen]
    rfl
  · have hl := right_s h (.inr rfl)
    subst hl
    have hn := truth_2 h
    have hy2 : ys = (xs ++ [2]) ++ (UInt8.ofNat n.toNat :: zs) := by rw [hy, List.append_assoc]; rfl
    have hb : bt ys xs.length = 2 := by rw [hy]; exact bt_app xs 2 _
    have hb2 : bt ys (xs.length + 1) = (UInt8.ofNat n.toNat).toNat := by
      have := bt_app (xs ++ [2]) (UInt8.ofNat n.toNat) zs
      rw [← hy2] at this
      simpa using this
    have hlen : (bytesV 2 n []).length = 2 := rfl
    have hyl : xs.length + 1 < ys.length := by rw [hy, List.length_append, List.length_append, hlen]; omega
    unfold getV
    rw [if_pos ⟨by omega, by omega⟩, Int.toNat_natCast, hb, candV_2, if_pos (by omega)]
    have hb3 : (bt ys ((xs.length : Int) + 1).toNat : Int) = n := by
      rw [show ((xs.length : Int) + 1).toNat = xs.length + 1 by omega, hb2, UInt8.toNat_ofNat']; omega
    simp only [hb3]
    rw [if_pos (show rightB ((2 : Nat) : Int) n [] = true from h)]
    rfl
  · have hn := right_n3 h
    have hlen : (bytesV 3 n l).length = sizeN l.length + l.length + 1 := by
      show (3 :: textB l).length = _
      unfold textB
      rw [List.length_cons, List.length_append, uintB_length]
    have hy2 : ys = (xs ++ [3]) ++ (uintB l.length ++ (l ++ zs)) := by
      rw [hy]
      show xs ++ ((3 :: textB l) ++ zs) = _
      unfold textB
      simp
    have hg := gt_at (xs ++ [3]) ys l zs ((xs.length : Int) + 1) 32 (by omega) (by omega) hy2 (by simp)
    have hb : bt ys xs.length = 3 := by rw [hy]; exact bt_app xs 3 _
    have hyl : xs.length < ys.length := by rw [hy, List.length_append, List.length_append, hlen]; omega
    unfold getV
    rw [if_pos ⟨by omega, by omega⟩, Int.toNat_natCast, hb, candV_3, hg]
    simp only []
    obtain ⟨rfl, _⟩ := hn
    rw [if_pos (show rightB ((3 : Nat) : Int) 0 l = true from h), hlen]
    rfl

theorem fitsV_right {c : ColD} {v : ValD} (h : fitsV c v = true) : rightB v.k v.n v.s.data.toList = true := by
  unfold fitsV fitsB at h
  simp only [Bool.and_eq_true] at h
  exact h.1.1.1
theorem bytesRow_split {R : List ValD} {k : Nat} (hk : k < R.length) : bytesRow R = bytesRow (R.take k) ++ (bytesOf R[k] ++ bytesRow (R.drop (k + 1))) := by
  conv => lhs; rw [← List.take_append_drop k R, List.drop_eq_getElem_cons hk]
  unfold bytesRow
  rw [List.flatMap_append, List.flatMap_cons]
/-- one value of a row that fits, got where it stands -/
theorem row_step {L : List ColD} {R : List ValD} (hl : L.length = R.length) (hf : fitsRow L R = true) (hok : ∀ q ∈ R, ValOk q) {k : Nat} (hk : k < R.length) (hp : posK (bytesRow R) 0 k = ((bytesRow (R.take k)).length : Int)) :
    valK (bytesRow R) 0 k = R[k] ∧ okK (bytesRow R) 0 L k = true ∧ posK (bytesRow R) 0 (k + 1) = ((bytesRow (R.take (k + 1))).length : Int) := by
  have hkl : k < L.length := by omega
  have hfk := (zipAll_iff (p := fitsV) hl).1 hf k hkl hk
  have hr := fitsV_right hfk
  have ho := hok R[k] (List.getElem_mem hk)
  have hb : bytesOf R[k] = bytesV R[k].k R[k].n R[k].s.data.toList := bytesR_of hr
  have hg := get_at (bytesRow (R.take k)) (bytesRow (R.drop (k + 1))) (bytesRow R) (by rw [bytesRow_split hk, hb]) hr ho.n0 ho.n1
  refine ⟨?_, ?_, ?_⟩
  · unfold valK
    rw [hp, hg]
    show (⟨R[k].k, R[k].n, str R[k].s.data.toList⟩ : ValD) = R[k]
    rw [str_toList]
  · unfold okK
    rw [hp, hg, List.getD_eq_getElem?_getD, List.getElem?_eq_getElem hkl, Option.getD_some]
    exact hfk
  · show nextG (getV (bytesRow R) (posK (bytesRow R) 0 k)) (posK (bytesRow R) 0 k) = _
    rw [hp, hg, bytesRow_take hk rfl, List.length_append, hb]
    show ((bytesRow (R.take k)).length : Int) + _ = _
    omega
theorem row_pos {L : List ColD} {R : List ValD} (hl : L.length = R.length) (hf : fitsRow L R = true) (hok : ∀ q ∈ R, ValOk q) : ∀ k, k ≤ R.length → posK (bytesRow R) 0 k = ((bytesRow (R.take k)).length : Int)
  | 0, _ => rfl
  | k + 1, h => (row_step hl hf hok (by omega) (row_pos hl hf hok k (by omega))).2.2
theorem fits_len {L : List ColD} {R : List ValD} (hf : fitsRow L R = true) : L.length = R.length := by
  refine Classical.byContradiction fun h => ?_
  rw [show fitsRow L R = false from zipAll_len h] at hf
  cases hf
/-- what is put is got -/
theorem row_back {L : List ColD} {R : List ValD} (hf : fitsRow L R = true) (hok : ∀ q ∈ R, ValOk q) : getOk (bytesRow R) 0 L = true ∧ getRowV (bytesRow R) 0 L.length = R ∧ posK (bytesRow R) 0 L.length = ((bytesRow R).length : Int) := by
  have hl := fits_len hf
  refine ⟨?_, ?_, ?_⟩
  · unfold getOk inB
    rw [decide_eq_true ⟨by omega, by omega⟩, Bool.true_and, List.all_eq_true]
    intro k hk
    have hk2 : k < R.length := by have := List.mem_range.1 hk; omega
    exact (row_step hl hf hok hk2 (row_pos hl hf hok k (by omega))).2.1
  · unfold getRowV
    apply List.ext_getElem
    · simp [hl]
    · intro i h1 h2
      rw [List.getElem_map, List.getElem_range]
      exact (row_step hl hf hok h2 (row_pos hl hf hok i (by omega))).1
  · rw [hl, row_pos hl hf hok R.length (Nat.le_refl _), List.take_length]
theorem sameV_iff : ∀ {a b : List ValD}, sameL eqVal a b = true ↔ a = b
  | [], [] => by simp [sameL]
  | [], _ :: _ => by simp [sameL]
  | _ :: _, [] => by simp [sameL]
  | x :: r, y :: s => by
    rw [sameL, Bool.and_eq_true, sameV_iff, List.cons.injEq]
    obtain ⟨xk, xn, xs⟩ := x
    obtain ⟨yk, yn, ys⟩ := y
    unfold eqVal
    simp only [Bool.and_eq_true, beq_iff_eq, eqS_iff, ValD.mk.injEq]
/-- the bytes are alike just if the rows are -/
theorem row_apart {L : List ColD} {A B : List ValD} (ha : fitsRow L A = true) (hb : fitsRow L B = true) (hoa : ∀ q ∈ A, ValOk q) (hob : ∀ q ∈ B, ValOk q) : (bytesRow A == bytesRow B) = sameL eqVal A B := by
  rw [Bool.eq_iff_iff, beq_iff_eq, sameV_iff]
  refine ⟨fun h => ?_, fun h => by rw [h]⟩
  have h1 := (row_back ha hoa).2.1
  have h2 := (row_back hb hob).2.1
  rw [h] at h1
  rw [← h1, h2]
end Go.Proofs.YtolfeellcdoopaaDoor.L6
